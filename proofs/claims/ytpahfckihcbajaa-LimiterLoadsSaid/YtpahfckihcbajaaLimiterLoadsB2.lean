/-
  The laws' sanity check. The contract of the reference's recent. The builtin max of two numbers. The contracts of the reference's Note and Loaded. Equality of two structs under a guard, as an operation. Two objects are compared by == or !=, in a list of operations and in a drawn region. No function of the program is named here. Lists of times and of buckets that are equal: times, buckets of the laws. The builtin min of two numbers. The remainder that is not negative. The contract of burrowcase.Mod for a modulus of at least 1. The beginning of a slice of bytes whose address is not known. No function of the program is named here. The walk of LimiterNotes. The walk of LimiterLoads. The builtin copy of objects of any size into a block, the append of made objects where there is no room, and what slices.overlaps gives of two blocks. No function of the program is named here. The contracts of slices.Clone, slices.IndexFunc and slices.DeleteFunc at a slice of int64 numbers. The contracts of the program's Note and Loaded. The zero value of burrow/api.Bucket. No function of the program is named here. The elements of type burrow/api.Bucket: size, zero value, pieces of their slices. One cell of a row of objects of one size that is written. No function of the program is named here. Rows of buckets of a call's own: as a block, one of them written, one's tokens written; what takes the price of a message. The contract of first of the program at buckets. The mathematics of time stamps over lists of bytes; no function of the program is named here. The contract of bytes.Compare for two rows of bytes. The sign of a comparison of rows of bytes. A byte of an address. Pieces of a slice of bytes whose address is not known: what x[i:j] and x[i:] give, and what they read as. The contract of the reference's Less of addresses (off InRef3). The contract of inner's Less. No statement is proved here.
-/
import Derived.RegionTactic
import Derived.Deep.DeepCutAuto
import Derived.Lib.AppendZerosOnto
import Derived.Lib.Overlaps
import Derived.Laws.Cover3
import Derived.Shelf.Abstract
import Derived.Lib.BytesEntry
import Derived.Lib.Bytealg
import Derived.Laws.Externs
import Derived.DeepKeys2
import Derived.Test.YtpahfckihcbajaaLimiterLoadsB1
namespace Go.Proofs.Ytpahfckihcbajaa
open Go.RowKit
def bgL (j : Nat) : List BucketM := if j = 0 then [] else [⟨addr0, 5000 - 1000 * (min j 5 : Nat), 0⟩]
theorem bg_step (j : Nat) (h : j ≤ 5) : allowM (bgL j) addr0 0 = (bgL (j + 1), decide (j < 5)) := by
  rcases (show j = 0 ∨ j = 1 ∨ j = 2 ∨ j = 3 ∨ j = 4 ∨ j = 5 by omega) with rfl | rfl | rfl | rfl | rfl | rfl <;> rfl
theorem bg_last : (allowM (bgL 6) addr0 50).2 = true := rfl
theorem bg_len (j : Nat) : (bgL j).length ≤ 1 := by
  unfold bgL
  split <;> simp
theorem bg_tok (j : Nat) : tokOk (bgL j) := by
  intro b hb
  unfold bgL at hb
  split at hb
  · simp at hb
  · rw [List.mem_singleton] at hb
    subst hb
    constructor
    · show (0 : Int) ≤ 5000 - 1000 * ((min j 5 : Nat) : Int)
      omega
    · show (5000 : Int) - 1000 * ((min j 5 : Nat) : Int) ≤ 5000
      omega
set_option maxRecDepth 100000 in
set_option maxHeartbeats 8000000 in
theorem lm_begun_any (HP : LmAllowC 17) (w : World) :
    Calls Try.prog 13 #[] w fun e w' => e = .returned (.bool true) ∧ Below w.heap.size w w' := by
  have HPA := Lib.hid HP
  obtain ⟨az, haz⟩ : ∃ z, addr0.cells.toArray = z := ⟨_, rfl⟩
  have HAZ := Lib.hid haz
  have HBT := Lib.hid (show Try.prog.built 35 [] = some az from by rw [← haz]; kernel_rfl)
  clear HP haz
  go_enter Try.func13, Try.ntmps13
  go_wp2_with fail
  go_loopw [1, 2, 3] (fun l k i wr => ∃ (j : Nat) (A : Option Addr) (n c : Nat), j ≤ 6 ∧ i = .int .i64 (j : Int) ∧ k = .int .i64 ((min j 5 : Nat) : Int) ∧ l = .slice A n c ∧ n ≤ c ∧ c ≤ maxLen ∧ BkRd wr wr.heap.size A n (bgL j) ∧ Below w.heap.size w wr) (fun _ _ i _ => 6 - (intOf i).toNat)
  case atStart => exact ⟨0, none, 0, 0, by omega, rfl, rfl, rfl, Nat.le_refl _, by unfold maxLen; omega, BkRd.nil, Below.refl _ _⟩
  case round =>
    obtain ⟨j, A, n, c, hj, rfl, rfl, rfl, hnc, hcm, hr, hb⟩ := hrel
    have hn1 : n ≤ 1000 := by have := hr.len; have := bg_len j; omega
    have HB := Lib.hid hb
    by_cases hj6 : j < 6
    · have d1 : decide ((j : Int) < 6) = true := by simp; omega
      have hcall := HPA.out A n c (bgL j) addr0 0 wr hnc hcm hn1 hr (bg_tok j) addr0_ok (by unfold inI64; omega)
      rw [HAZ.out, bg_step j (by omega)] at hcall
      have HCALL := Lib.hid hcall
      obtain ⟨m, hm⟩ : ∃ m, min j 5 = m := ⟨_, rfl⟩
      rw [hm]
      have hm1 : m ≤ 5 := by omega
      obtain ⟨y, hy⟩ : ∃ y, decide (j < 5) = y := ⟨_, rfl⟩
      simp only [hy] at HCALL
      have HM := Lib.hid (And.intro hm hy)
      clear hcall hnc hcm hn1 hr hb hm hy
      go_wp2_with ((with_reducible refine at_op (.build 35 #[]) rfl ?_); refine wpList_build_as rfl 35 [] rfl az ?_ ?_; exact HBT.out)
      refine HCALL.out.mono ?_
      rintro e w2 ⟨A2, n2, c2, rfl, h1, h2, hr2, hb2⟩
      have HR2 := Lib.hid (And.intro h1 (And.intro h2 (And.intro hr2 (HB.out.trans (hb2.mono HB.out.size)))))
      clear h1 h2 hr2 hb2 HCALL d1
      obtain ⟨j2, hj2⟩ : ∃ z, j + 1 = z := ⟨_, rfl⟩
      have e8 : (j : Int) + 1 = (j2 : Int) := by omega
      have w8' : IntKind.i64.wrap (j2 : Int) = (j2 : Int) := by rw [IntKind.wrap_i64]; omega
      have HJ := Lib.hid (show j2 ≤ 6 ∧ 6 - j2 < 6 - j ∧ j2 = j + 1 from by omega)
      rw [hj2] at HR2
      clear hj2 hj hj6
      cases y with
      | true =>
        obtain ⟨m2, hm2⟩ : ∃ z, m + 1 = z := ⟨_, rfl⟩
        have e9 : (m : Int) + 1 = (m2 : Int) := by omega
        have w9' : IntKind.i64.wrap (m2 : Int) = (m2 : Int) := by rw [IntKind.wrap_i64]; omega
        have HMM := Lib.hid (show min j2 5 = m2 from by have h1 := HM.out.1; have h2 := of_decide_eq_true HM.out.2; have h3 := HJ.out.2.2; omega)
        clear hm2 hm1
        go_wp2_with fail
        go_roundw
        case rel => exact ⟨j2, A2, n2, c2, HJ.out.1, rfl, by rw [HMM.out], rfl, HR2.out.1, HR2.out.2.1, HR2.out.2.2.1, HR2.out.2.2.2⟩
        case measure => simp [intOf]; exact HJ.out.2.1
      | false =>
        have HMM := Lib.hid (show min j2 5 = m from by have h1 := HM.out.1; have h2 := of_decide_eq_false HM.out.2; have h3 := HJ.out.2.2; omega)
        clear hm1
        go_wp2_with fail
        go_roundw
        case rel => exact ⟨j2, A2, n2, c2, HJ.out.1, rfl, by rw [HMM.out], rfl, HR2.out.1, HR2.out.2.1, HR2.out.2.2.1, HR2.out.2.2.2⟩
        case measure => simp [intOf]; exact HJ.out.2.1
    · obtain rfl : j = 6 := by omega
      have d1 : decide (((6 : Nat) : Int) < 6) = false := by decide
      have hcall := HPA.out A n c (bgL 6) addr0 50 wr hnc hcm hn1 hr (bg_tok 6) addr0_ok (by unfold inI64; omega)
      rw [HAZ.out, bg_last] at hcall
      have HCALL := Lib.hid hcall
      clear hcall hnc hcm hn1 hr hb hj hj6
      go_wp2_with ((with_reducible refine at_op (.build 35 #[]) rfl ?_); refine wpList_build_as rfl 35 [] rfl az ?_ ?_; exact HBT.out)
      refine HCALL.out.mono ?_
      rintro e w2 ⟨A2, n2, c2, rfl, _, _, _, hb2⟩
      have HF := Lib.hid (HB.out.trans (hb2.mono HB.out.size))
      clear hb2 HCALL
      go_wp2
      go_ret
      exact ⟨rfl, HF.out⟩
end Go.Proofs.Ytpahfckihcbajaa
namespace Go.Proofs.Ytpahfckihcbajaa
open Go.RowKit
end Go.Proofs.Ytpahfckihcbajaa
namespace Go.Proofs.Ytpahfckihcbajaa
open Go.RowKit

theorem wpList_max_k {P : Program} {w : World} {ops : Array Oper} {rest : List Oper} {o : Oper} {a : Act} {Q : Exit → Act → World → Prop} (hgd : o.guard = none) (x y : Operand) (ts : Array TypeId) (ho : o.op = .call { callee := .builtin .max, args := #[x, y], argTypes := ts })
    (k : IntKind) (u v m : Int) (hx : a.eval x = .int k u) (hy : a.eval y = .int k v) (hm : max u v = m) (h : wpList P ops Q rest (a.put o.dst (.int k m)) w) : wpList P ops Q (o :: rest) a w :=
  wpList_plain hgd fun K hK => by
    have hr : (Builtin.max_ ts o.type #[.int k u, .int k v]).run P w = .ok (.int k m) w := by
      subst hm
      by_cases huv : v ≤ u
      · rw [Int.max_eq_left huv]
        simp [Builtin.max_, Builtin.max2]
        try omega
      · rw [Int.max_eq_right (by omega)]
        simp [Builtin.max_, Builtin.max2]
        try omega
    unfold Oper.wp execOp
    simp only [ho, resolve, invoke, builtin, Sem.run_bind, Sem.run_pure, Result.andThen_ok, List.map_toArray, List.map_cons, List.map_nil, hx, hy, hr]
    exact hK _ _ h
end Go.Proofs.Ytpahfckihcbajaa
namespace Go.Proofs.Ytpahfckihcbajaa
open Go.RowKit
theorem filter_snoc {l : List Int} {j : Nat} {x now : Int} (h : l[j]? = some x) : (l.take (j + 1)).filter (recentM now) = (l.take j).filter (recentM now) ++ if recentM now x = true then [x] else [] := by
  rw [take_snoc h, List.filter_append]
  congr 1
  by_cases hx : recentM now x = true
  · rw [if_pos hx]; simp [hx]
  · rw [if_neg hx]; simp [hx]
theorem ints_snoc (l : List Int) (x : Int) : (intsV .i64 (l ++ [x])).flatten = (intsV .i64 l).flatten ++ [.int .i64 x] := by simp [intsV]
theorem i64Info : (Try.prog.info? 2).map (fun i => (i.zero, i.size, i.bytes)) = some (some (.int .i64 0), 1, 8) := by kernel_rfl
end Go.Proofs.Ytpahfckihcbajaa
namespace Go.Proofs.Ytpahfckihcbajaa
open Go.RowKit

theorem wpList_eql_agg {P : Program} {w : World} {ops : Array Oper} {rest : List Oper} {o : Oper} {a : Act} {Q : Exit → Act → World → Prop} (hw : Region.wanted o (yielded ops a.tmps) = true) (t r : TypeId) (i j : Tmp) (ho : o.op = .binOp .eql t (.tmp i) (.tmp j) r) (u v : Array Value) (b : Bool)
    (hx : a.eval (.tmp i) = .agg u) (hy : a.eval (.tmp j) = .agg v) (hg : P.eqGuardType P.depth t = false) (he : (Op.equalIn 10000 t (.agg u) (.agg v)).run P w = .ok b w)
    (h : wpList P ops Q rest (a.put o.dst (.bool b)) w) : wpList P ops Q (o :: rest) a w :=
  wpList_step fun K hK => by
    rw [if_pos hw]
    have he2 : (Op.equalIn Op.maxDepth t (.agg u) (.agg v)).run P w = .ok b w := he
    have hr : (execOp a.eval o).run P w = .ok (.value (.bool b)) w := by
      unfold execOp
      simp only [ho, hx, hy, eqGuard]
      simp [binOp, Op.equal, he2, hg, Result.andThen]
    unfold Oper.wp
    rw [hr]
    exact hK _ _ h
end Go.Proofs.Ytpahfckihcbajaa
namespace Go.Proofs.Ytpahfckihcbajaa
open Go.RowKit

end Go.Proofs.Ytpahfckihcbajaa
namespace Go.Proofs.Ytpahfckihcbajaa
open Go.RowKit
end Go.Proofs.Ytpahfckihcbajaa
namespace Go.Proofs.Ytpahfckihcbajaa
open Go.RowKit

theorem wpList_min_k {P : Program} {w : World} {ops : Array Oper} {rest : List Oper} {o : Oper} {a : Act} {Q : Exit → Act → World → Prop} (hgd : o.guard = none) (x y : Operand) (ts : Array TypeId) (ho : o.op = .call { callee := .builtin .min, args := #[x, y], argTypes := ts })
    (k : IntKind) (u v m : Int) (hx : a.eval x = .int k u) (hy : a.eval y = .int k v) (hm : min u v = m) (h : wpList P ops Q rest (a.put o.dst (.int k m)) w) : wpList P ops Q (o :: rest) a w :=
  wpList_plain hgd fun K hK => by
    have hr : (Builtin.min_ ts o.type #[.int k u, .int k v]).run P w = .ok (.int k m) w := by
      subst hm
      by_cases huv : u ≤ v
      · rw [Int.min_eq_left huv]
        simp [Builtin.min_, Builtin.min2]
        try omega
      · rw [Int.min_eq_right (by omega)]
        simp [Builtin.min_, Builtin.min2]
        try omega
    unfold Oper.wp execOp
    simp only [ho, resolve, invoke, builtin, Sem.run_bind, Sem.run_pure, Result.andThen_ok, List.map_toArray, List.map_cons, List.map_nil, hx, hy, hr]
    exact hK _ _ h
end Go.Proofs.Ytpahfckihcbajaa
namespace Go.Proofs.Ytpahfckihcbajaa
open Go.RowKit

end Go.Proofs.Ytpahfckihcbajaa
namespace Go.Proofs.Ytpahfckihcbajaa
open Go.RowKit

end Go.Proofs.Ytpahfckihcbajaa
namespace Go.Proofs.Ytpahfckihcbajaa
open Go.RowKit

theorem rd_ahead {W : World} {B n : Nat} {A : Option Addr} {l : List UInt8} (h : Rd W B A n l) (i c : Nat) (hi : i ≤ n) : Rd W B (addrK A 0 c 1) i (l.take i) := by
  rcases Nat.eq_zero_or_pos i with h0 | h0
  · subst h0
    rw [List.take_zero]
    exact Rd.nil _ _ _
  · obtain ⟨b, off, rfl, _, _⟩ := h.2 (by omega)
    rw [addrK_zero_some]
    exact h.take hi
end Go.Proofs.Ytpahfckihcbajaa
namespace Go.Proofs.Ytpahfckihcbajaa
open Go.RowKit
theorem lmU8Info : (Try.prog.info? 5).map (fun i => (i.zero, i.size, i.bytes)) = some (some (.int .u8 0), 1, 1) := by kernel_rfl
theorem note_len (l : List Int) (now : Int) : (noteM l now).length ≤ 64 := by
  rw [noteM, List.length_drop]
  omega
theorem note_in {l : List Int} {now : Int} (h : ∀ x ∈ l, inI64 x) (hn : inI64 now) : ∀ x ∈ noteM l now, inI64 x := fun x hx => by
  have h1 := List.mem_of_mem_drop hx
  rcases List.mem_append.1 h1 with h2 | h2
  · exact h x (List.mem_filter.1 h2).1
  · rw [List.mem_singleton.1 h2]; exact hn
/-- what a call of Note and the reference's give, and that they are equal -/
def IntsOk (W : World) (A : Option Addr) (n c : Nat) (l : List Int) : Prop := n ≤ c ∧ c ≤ maxLen ∧ n ≤ 1000 ∧ IntRd .i64 W W.heap.size A n l ∧ ∀ x ∈ l, inI64 x
theorem IntsOk.below {W W' : World} {A : Option Addr} {n c : Nat} {l : List Int} (h : IntsOk W A n c l) (hb : Below W.heap.size W W') : IntsOk W' A n c l := ⟨h.1, h.2.1, h.2.2.1, (h.2.2.2.1.below hb).mono hb.size, h.2.2.2.2⟩
theorem note_call (HN : LmNoteC 7) {W : World} {A : Option Addr} {n c : Nat} {l : List Int} (h : IntsOk W A n c l) (now : Int) (hnow : inI64 now) :
    Calls Try.prog 7 #[.slice A n c, .int .i64 now] W fun e w' => ∃ A' n' c', e = .returned (.slice A' n' c') ∧ IntsOk w' A' n' c' (noteM l now) ∧ Fresh W.heap.size A' ∧ Below W.heap.size W w' :=
  (HN A n c l now W h.1 h.2.1 h.2.2.1 h.2.2.2.1 h.2.2.2.2 hnow).mono fun e w' ⟨A', n', c', he, h1, h2, h3, hf, hb⟩ => ⟨A', n', c', he, ⟨h1, h2, by have := h3.len; have := note_len l now; omega, h3, note_in h.2.2.2.2 hnow⟩, hf, hb⟩
def tick (a : Int) (j : Nat) : Prop := 0 ≤ a ∧ a ≤ 1099511627776 + 256 * (j : Int)
theorem tick_in {a : Int} {j : Nat} (h : tick a j) (hj : j ≤ 100) : inI64 a := ⟨by have := h.1; omega, by have := h.2; omega⟩
end Go.Proofs.Ytpahfckihcbajaa
namespace Go.Proofs.Ytpahfckihcbajaa
open Go.RowKit
theorem filter_later {all : List Int} {t t2 : Int} (h : t ≤ t2) (hx : ∀ x ∈ all, x ≤ t) : (all.filter (recentM t)).filter (recentM t2) = all.filter (recentM t2) := by
  rw [List.filter_filter]
  refine List.filter_congr fun x hm => ?_
  have h1 := hx x hm
  unfold recentM
  by_cases h2 : x ≤ t2 ∧ t2 - x < 1000
  · rw [decide_eq_true h2.1, decide_eq_true h2.2, decide_eq_true h1, decide_eq_true (by omega : t - x < 1000)]
    rfl
  · by_cases h3 : x ≤ t2
    · rw [decide_eq_true h3, decide_eq_false (fun h4 => h2 ⟨h3, h4⟩)]
      rfl
    · rw [decide_eq_false h3]
      rfl
theorem note_all {all : List Int} {t t2 : Int} (h : t ≤ t2) (hx : ∀ x ∈ all, x ≤ t) (hl : all.length ≤ 62) : noteM (all.filter (recentM t)) t2 = (all ++ [t2]).filter (recentM t2) := by
  rw [noteM, filter_later h hx]
  have h1 := List.length_filter_le (recentM t2) all
  rw [show (all.filter (recentM t2) ++ [t2]).length - 64 = 0 from by rw [List.length_append, List.length_cons, List.length_nil]; omega, List.drop_zero, List.filter_append]
  congr 1
  simp [recentM]
theorem count_all (all : List Int) (t : Int) : countM (all.filter (recentM t)) t = (all.filter (recentM t)).length := by
  rw [countM, List.filter_filter]
  congr 2
  funext x
  cases recentM t x <;> rfl
theorem recent_gt {x t : Int} (h : x ≤ t) : recentM t x = decide (x > t - 1000) := by
  unfold recentM
  rw [decide_eq_true h, Bool.true_and]
  exact decide_eq_decide.2 ⟨fun h => by omega, fun h => by omega⟩
set_option maxRecDepth 100000 in
set_option maxHeartbeats 8000000 in
theorem lm_loads_walk (HN : LmNoteC 7) (HL : LmLoadedC 11) (HA : LmAllowC 17) (w : World) (A1 : Option Addr) (n1 c1 : Nat) (st : List UInt8) (ld : Nat) (hnc1 : n1 ≤ c1) (_ : c1 ≤ maxLen) (hr1 : Rd w w.heap.size A1 n1 st) (hld : ld ≤ 255) :
    Calls Try.prog 4 #[.slice A1 n1 c1, .int .u8 (ld : Int)] w fun e w' => e = .returned (.bool true) ∧ Below w.heap.size w w' := by
  have HNA := Lib.hid HN
  have HLA := Lib.hid HL
  have HBG := Lib.hid (fun W : World => lm_begun_any HA W)
  obtain ⟨i0, hti, hz0, hz1, hz2⟩ := info_parts (P := Try.prog) (e := 2) (z := .int .i64 0) (size := 1) (bytes := 8) i64Info
  obtain ⟨m1, hm1⟩ : ∃ z, min n1 60 = z := ⟨_, rfl⟩
  have HM1 := Lib.hid (show min (n1 : Int) 60 = (m1 : Int) from by omega)
  have hs1 := fun W => ints_h Try.underlying23 lmU8Info A1 (n := n1) c1 m1 (by omega) hnc1 W
  obtain ⟨As, hAs⟩ : ∃ z, addrK A1 0 c1 1 = z := ⟨_, rfl⟩
  have hk1 : Rd w w.heap.size As m1 (st.take m1) := by rw [← hAs]; exact rd_ahead hr1 m1 c1 (by omega)
  rw [hAs] at hs1
  obtain ⟨ss, hss⟩ : ∃ z, st.take m1 = z := ⟨_, rfl⟩
  rw [hss] at hk1
  have HK1 := Lib.hid hk1
  have HSL := Lib.hid (show ss.length = m1 from hk1.1)
  have HM60 := Lib.hid (show m1 ≤ 60 from by omega)
  obtain ⟨lr, hlr⟩ : ∃ z, ld % 10 = z := ⟨_, rfl⟩
  obtain ⟨ln, hln⟩ : ∃ z, 1 + (lr : Int) = z := ⟨_, rfl⟩
  have HLN := Lib.hid (show inI64 ln from ⟨by omega, by omega⟩)
  have w1' : IntKind.i64.wrap (ld : Int) = (ld : Int) := by rw [IntKind.wrap_i64]; omega
  have e1 : (ld : Int) % 10 = (lr : Int) := by omega
  have e2 : (ld : Int).tmod 10 = (lr : Int) := by rw [Int.tmod_eq_emod_of_nonneg (by omega)]; exact e1
  have w2' : IntKind.i64.wrap (lr : Int) = (lr : Int) := by rw [IntKind.wrap_i64]; omega
  have w3' : IntKind.i64.wrap ln = ln := by rw [IntKind.wrap_i64]; omega
  clear HN HL HA hm1 hk1 hAs hss hr1 hnc1 hlr
  go_enter Try.func4, Try.ntmps4
  go_wp2_with (refine wpList_min_k rfl (.tmp 20) (.const (.int .i64 60)) _ rfl .i64 (n1 : Int) 60 (m1 : Int) rfl rfl HM1.out ?_)
  clear hs1 hln w1' e1 e2 w2' w3' hld
  go_loopw [5, 6, 7, 24] (fun vl va vt vi wr => ∃ (j : Nat) (A : Option Addr) (n c : Nat) (all : List Int) (tv : Int), j ≤ m1 ∧ vi = .int .i64 (j : Int) ∧ vl = .slice A n c ∧ vt = .int .i64 tv ∧ IntsOk wr A n c (all.filter (recentM tv)) ∧ tick tv j ∧ all.length = j ∧ (∀ x ∈ all, inI64 x ∧ x ≤ tv) ∧ wr.ownsRow w.heap.size 2 1 va j (intsV .i64 all).flatten ∧ Below w.heap.size w wr) (fun _ _ _ i _ => m1 - (intOf i).toNat)
  case atStart => exact ⟨0, none, 0, 0, [], 5000, Nat.zero_le _, rfl, rfl, rfl, ⟨Nat.le_refl _, by unfold maxLen; omega, by omega, IntRd.nil, by simp⟩, ⟨by omega, by omega⟩, rfl, by simp, World.ownsRow_nil _ _ _ _, Below.refl _ _⟩
  case round =>
    obtain ⟨j, A, n, c, all, tv, hj, rfl, rfl, rfl, hl, ht, hal, hax, hown, hb⟩ := hrel
    have HB := Lib.hid hb
    have HLL := Lib.hid hl
    by_cases hjm : j < m1
    · have d1 : decide ((j : Int) < (m1 : Int)) = true := by simp; omega
      have d2 : decide (j < m1) = true := decide_eq_true hjm
      have o2 : (j : Int) < (m1 : Int) := by omega
      obtain ⟨bs, os, rfl, hbs, hcell⟩ := HK1.out.2 (by omega)
      have hjl : j < ss.length := by rw [HSL.out]; exact hjm
      have fx : wr.cell? ⟨bs, os + j, none⟩ = some (.int .u8 ((ss[j]).toNat : Int)) := (World.cell?_of_block (HB.out.block bs hbs)).trans (hcell j hjl)
      obtain ⟨sx, hsx⟩ : ∃ z, (ss[j]).toNat = z := ⟨_, rfl⟩
      have hsb : sx < 256 := by rw [← hsx]; exact (ss[j]).toNat_lt
      rw [hsx] at fx
      obtain ⟨tn, htn⟩ : ∃ z, tv + (sx : Int) = z := ⟨_, rfl⟩
      have hm60 := HM60.out
      have HTK := Lib.hid (show tick tn (j + 1) from ⟨by have := ht.1; omega, by have := ht.2; omega⟩)
      have hti1 := tick_in HTK.out (by omega)
      have HTI := Lib.hid hti1
      have w1' : IntKind.i64.wrap tn = tn := IntWalk.i64_in _ hti1
      have w2' : IntKind.i64.wrap (sx : Int) = (sx : Int) := IntWalk.i64_in _ (by omega)
      have HJM := Lib.hid hjm
      have hle : tv ≤ tn := by omega
      have HNT := Lib.hid (note_all hle (fun x hx => (hax x hx).2) (by omega : all.length ≤ 62))
      have HAL := Lib.hid (show (all ++ [tn]).length = j + 1 from by rw [List.length_append, hal]; rfl)
      have HAX := Lib.hid (show ∀ x ∈ all ++ [tn], inI64 x ∧ x ≤ tn from fun x hx => by
        rcases List.mem_append.1 hx with hx | hx
        · exact ⟨(hax x hx).1, by have := (hax x hx).2; omega⟩
        · rw [List.mem_singleton.1 hx]; exact ⟨hti1, Int.le_refl _⟩)
      have HOWN := Lib.hid hown
      clear hsx hcell hbs hjl hti1 hb hl ht hjm hj hle hax hal hown
      go_wp2_with fail
      refine (note_call HNA.out HLL.out tn HTI.out).mono ?_
      rintro e w2 ⟨A2, n2, c2, rfl, hk2, hf2, hb2⟩
      rw [HNT.out] at hk2
      have HK2 := Lib.hid hk2
      have HB2 := Lib.hid (HB.out.trans (hb2.mono HB.out.size))
      have hown := own_below HOWN.out hb2
      clear hk2 hb2 fx d1 d2 o2 htn w1' w2' HB HLL
      have hjm := HJM.out
      have hvl : ∀ k, (u6).ownBlock = some k → k < wr.heap.size := fun k hk => (HOWN.out.lt k hk).2
      have HVL := Lib.hid (And.intro hf2 hvl)
      clear hf2 hvl HOWN
      go_upto_region 8 with (at_builtin; refine wpList_append_own _ rfl (.tmp 35) (.tmp 37) 22 rfl w.heap.size 2 i0 (.int .i64 0) 1 8 Try.underlying22 hti hz0 hz1 hz2 rfl (by omega) u6 j _ rfl (hown.alloc _) ⟨w2.heap.size, 0, none⟩ 1 1 [.int .i64 tn] rfl rfl (cell_one_new _ _ _) (fun u hu => by simp only [List.mem_singleton] at hu; subst hu; rfl) (by unfold maxLen; omega) (by omega) (by have := HB2.out.size; simp; omega) ?_; intro v' w' hown' hg' _)
      have hbn := (Below.refl w2.heap.size w2).alloc (Nat.le_refl _) (.cells #[.int .i64 tn] 2)
      have hka := HK2.out.below hbn
      have HK3 := Lib.hid (show IntsOk w' A2 n2 c2 ((all ++ [tn]).filter (recentM tn)) from ⟨hka.1, hka.2.1, hka.2.2.1, (hka.2.2.2.1.keepF (Nat.le_refl _) HVL.out.1 hg' HVL.out.2).mono hg'.size, hka.2.2.2.2⟩)
      have HB3 := Lib.hid ((HB2.out.alloc HB2.out.size (.cells #[.int .i64 tn] 2)).grown hg' (by have := HB2.out.size; simp; omega) (own_from hown))
      rw [← ints_snoc] at hown'
      obtain ⟨a2, ha2⟩ : ∃ z, all ++ [tn] = z := ⟨_, rfl⟩
      rw [ha2] at hown' HK3 HAL HAX
      have HOW := Lib.hid hown'
      obtain ⟨Av, cv, rfl, _, _, _⟩ := own_sliceK hown'
      have HRD := Lib.hid (show IntRd .i64 w' w'.heap.size Av (j + 1) a2 from RdRow.of_own (by rw [intsV_len, HAL.out]) (by intro o ho; obtain ⟨_, _, rfl⟩ := List.mem_map.1 ho; rfl) hown')
      obtain ⟨jn, hjn⟩ : ∃ z, j + 1 = z := ⟨_, rfl⟩
      rw [hjn] at HOW HRD HAL HTK ⊢
      have HJN := Lib.hid (show jn ≤ m1 ∧ m1 - jn < m1 - j ∧ jn ≤ 61 from by have := HM60.out; omega)
      have e7 : (j : Int) + 1 = (jn : Int) := by omega
      have w7' : IntKind.i64.wrap (jn : Int) = (jn : Int) := by rw [IntKind.wrap_i64]; have := HJN.out; omega
      have E7 := Lib.hid (And.intro e7 w7')
      obtain ⟨td, htd⟩ : ∃ z, tn - 1000 = z := ⟨_, rfl⟩
      have hwd : IntKind.i64.wrap td = td := by rw [IntKind.wrap_i64]; have := HTK.out.1; have := HTI.out.2; omega
      have HTD := Lib.hid htd
      clear hown hown' hg' hbn hka HK2 HB2 HNT ha2 hjn hjm e7 w7' HVL HJM
      go_wp2_with fail
      go_loopw [11, 41] (fun vr vi wr => ∃ q : Nat, q ≤ jn ∧ vi = .int .i64 (q : Int) ∧ vr = .int .i64 ((((a2.take q).filter (recentM tn)).length : Nat) : Int) ∧ wr = w') (fun _ vi _ => jn - (intOf vi).toNat)
      case atStart => exact ⟨0, Nat.zero_le _, rfl, rfl, rfl⟩
      case round =>
        obtain ⟨q, hq, rfl, rfl, rfl⟩ := hrel
        have hfl : ((a2.take q).filter (recentM tn)).length ≤ 100 := by
          have h1 := List.length_filter_le (recentM tn) (a2.take q)
          rw [List.length_take] at h1
          have := HJN.out
          omega
        by_cases hqn : q < jn
        · have d1 : decide ((q : Int) < (jn : Int)) = true := by simp; omega
          obtain ⟨x, hx⟩ : ∃ x, a2[q]? = some x := ⟨a2[q]'(by rw [HAL.out]; exact hqn), List.getElem?_eq_getElem _⟩
          have hxa := HAX.out x (List.mem_of_getElem? hx)
          obtain ⟨b, off, rfl⟩ := HRD.out.addr (by omega)
          have fx := (HRD.out.at q x hx).2
          have HNX := Lib.hid (filter_snoc (now := tn) hx)
          generalize (a2.take q).filter (recentM tn) = fl at hfl HNX ⊢
          obtain ⟨m, hm⟩ : ∃ m, fl.length = m := ⟨_, rfl⟩
          rw [hm] at hfl ⊢
          have HMM := Lib.hid hm
          obtain ⟨y, hy⟩ : ∃ y, decide (x > td) = y := ⟨_, rfl⟩
          have hyr : recentM tn x = y := by rw [recent_gt hxa.2, HTD.out]; exact hy
          rw [hyr] at HNX
          obtain ⟨q2, hq2⟩ : ∃ z, q + 1 = z := ⟨_, rfl⟩
          have e8 : (q : Int) + 1 = (q2 : Int) := by omega
          have w8' : IntKind.i64.wrap (q2 : Int) = (q2 : Int) := by rw [IntKind.wrap_i64]; have := HJN.out; omega
          have HQ := Lib.hid (show q2 ≤ jn ∧ jn - q2 < jn - q from by omega)
          rw [hq2] at HNX
          clear hx hxa hm hyr hq2 hq
          cases y with
          | true =>
            replace HNX := Lib.hid (show (a2.take q2).filter (recentM tn) = fl ++ [x] from by have h := HNX.out; rwa [if_pos rfl] at h)
            obtain ⟨m2, hm2⟩ : ∃ z, m + 1 = z := ⟨_, rfl⟩
            have e9 : (m : Int) + 1 = (m2 : Int) := by omega
            have w9' : IntKind.i64.wrap (m2 : Int) = (m2 : Int) := by rw [IntKind.wrap_i64]; omega
            have HM2 := Lib.hid hm2
            clear hm2 hfl
            go_wp2_with fail
            go_roundw
            case rel => exact ⟨q2, HQ.out.1, rfl, by rw [HNX.out, List.length_append, HMM.out, ← HM2.out]; rfl, by first | rfl | trivial⟩
            case measure => simp [intOf]; exact HQ.out.2
          | false =>
            replace HNX := Lib.hid (show (a2.take q2).filter (recentM tn) = fl from by have h := HNX.out; rwa [if_neg (by simp), List.append_nil] at h)
            go_wp2_with fail
            go_roundw
            case rel => exact ⟨q2, HQ.out.1, rfl, by rw [HNX.out, HMM.out], by first | rfl | trivial⟩
            case measure => simp [intOf]; exact HQ.out.2
        · obtain rfl : q = jn := by omega
          have d1 : decide ((q : Int) < (q : Int)) = false := by simp
          rw [List.take_of_length_le (by rw [HAL.out]; exact Nat.le_refl _)] at hfl ⊢
          have hk3 := HK3.out
          have hcall := HLA.out A2 n2 c2 _ tn ln wr hk3.2.2.1 hk3.2.2.2.1 hk3.2.2.2.2 HTI.out HLN.out
          rw [loadedM, count_all] at hcall
          obtain ⟨m, hm⟩ : ∃ m, (a2.filter (recentM tn)).length = m := ⟨_, rfl⟩
          rw [hm] at hcall hfl ⊢
          obtain ⟨y, hy⟩ : ∃ y, decide ((m : Int) > ln) = y := ⟨_, rfl⟩
          rw [hy] at hcall
          have HCALL := Lib.hid hcall
          have yy : (y != y) = false := by simp
          clear hk3 hcall hm hq hqn hwd htd
          go_wp2_with fail
          refine HCALL.out.mono ?_
          rintro e w6 ⟨rfl, hb6⟩
          have HK6 := Lib.hid (HK3.out.below hb6)
          have HO6 := Lib.hid (own_below HOW.out hb6)
          have HB6 := Lib.hid (HB3.out.trans (hb6.mono HB3.out.size))
          have e7 := E7.out.1
          have w7' := E7.out.2
          clear hb6 HCALL d1
          go_wp2_with fail
          go_roundw
          case rel => exact ⟨q, A2, n2, c2, a2, tn, HJN.out.1, rfl, rfl, rfl, HK6.out, HTK.out, HAL.out, HAX.out, HO6.out, HB6.out⟩
          case measure => simp [intOf]; exact HJN.out.2.1
    · obtain rfl : j = m1 := by omega
      have d1 : decide ((j : Int) < (j : Int)) = false := by simp
      clear hl ht hb HLL hj hjm hax hown hal
      go_wp2_with fail
      refine (HBG.out _).mono ?_
      rintro e w2 ⟨rfl, hb2⟩
      have HF := Lib.hid (HB.out.trans (hb2.mono HB.out.size))
      clear hb2
      go_wp2
      go_ret
      exact ⟨rfl, HF.out⟩
end Go.Proofs.Ytpahfckihcbajaa
namespace Go.Proofs.Ytpahfckihcbajaa
open Go.RowKit

theorem run_copy_objs {P : Program} (w : World) (dT sT ty elem : TypeId) (k g off dLen dCap : Nat) (a : Addr) (sLen sCap : Nat) (cur : List Value) (t : TypeId) (cs : List Value)
    (hu : P.underlying dT = some (.slice elem)) (hs : (P.info? elem).map (·.size) = some k) (hg : Blk w g t cur) (hn : cs.length = Nat.min sLen dLen * k)
    (hsrc : ∀ j v, cs[j]? = some v → w.cell? (a.add j) = some v) (hfit : off + cs.length ≤ cur.length) (h1 : ∀ v ∈ cs, v.oneCell' = true) :
    ∃ w', (Builtin.copy_ #[dT, sT] ty #[.slice (some ⟨g, off, none⟩) dLen dCap, .slice (some a) sLen sCap]).run P w = .ok (goInt (Nat.min sLen dLen)) w' ∧ Blk w' g t (setL cur off cs) ∧ w.grownBy w' (some g) := by
  have hl := run_loadCells_list (P := P) w a cs hsrc
  have hst := run_storeCells_at P g off t cs 0 cur.toArray w hg (by simpa using hfit) h1
  rw [Nat.add_zero] at hst
  refine ⟨w.setRow g (cur.toArray.toList.take off ++ cs ++ cur.toArray.toList.drop (off + cs.length)).toArray, ?_, ?_, ⟨rfl, rfl, rfl, by simp, fun q _ hq => setRow_other w g q _ (fun e => hq (by simp [e]))⟩⟩
  · cases hq : P.info? elem with
    | none => simp [hq] at hs
    | some i =>
      have hi : i.size = k := by simpa [hq] using hs
      simp [Builtin.copy_, run_underlying hu, Builtin.lenOf, Builtin.firstCells, sizeOf, typeInfo, hq, hi, ← hn, hl, hst]
  · exact setRow_heap w g cur.toArray _ t _ hg
theorem wpList_copy_objs {P : Program} (w : World) {ops : Array Oper} {rest : List Oper} {o : Oper} {a : Act} {Q : Exit → Act → World → Prop} (hgd : o.guard = none) (d s : Operand) (dT sT : TypeId)
    (ho : o.op = .call { callee := .builtin .copy, args := #[d, s], argTypes := #[dT, sT] }) (elem : TypeId) (hu : P.underlying dT = some (.slice elem)) (k : Nat) (hsz : (P.info? elem).map (·.size) = some k)
    (g off dLen dCap : Nat) (ad : Addr) (sLen sCap : Nat) (hd : a.eval d = .slice (some ⟨g, off, none⟩) dLen dCap) (hs : a.eval s = .slice (some ad) sLen sCap)
    (cur : List Value) (t : TypeId) (hg : Blk w g t cur) (cs : List Value) (hn : cs.length = Nat.min sLen dLen * k)
    (hsrc : ∀ j v, cs[j]? = some v → w.cell? (ad.add j) = some v) (hfit : off + cs.length ≤ cur.length) (h1 : ∀ v ∈ cs, v.oneCell' = true)
    (h : ∀ w', Blk w' g t (setL cur off cs) → w.grownBy w' (some g) → wpList P ops Q rest (a.put o.dst (goInt (Nat.min sLen dLen))) w') : wpList P ops Q (o :: rest) a w := by
  refine wpList_plain hgd fun K hK => ?_
  obtain ⟨w', hrun, h2, h3⟩ := run_copy_objs (P := P) w dT sT o.type elem k g off dLen dCap ad sLen sCap cur t cs hu hsz hg hn hsrc hfit h1
  unfold Oper.wp execOp
  simp only [ho, resolve, invoke, builtin, Sem.run_bind, Sem.run_pure, Result.andThen_ok, List.map_toArray, List.map_cons, List.map_nil, hs, hd, hrun]
  exact hK _ _ (h w' h2 h3)
theorem step_copy_objs {P : Program} (w : World) {ops : Array Oper} {o : Oper} {a : Act} {K : Act → World → Prop} {Q : Exit → Act → World → Prop} {E : Prop} (hgd : o.guard = none) (d s : Operand) (dT sT : TypeId)
    (ho : o.op = .call { callee := .builtin .copy, args := #[d, s], argTypes := #[dT, sT] }) (elem : TypeId) (hu : P.underlying dT = some (.slice elem)) (k : Nat) (hsz : (P.info? elem).map (·.size) = some k)
    (g off dLen dCap : Nat) (ad : Addr) (sLen sCap : Nat) (hd : a.eval d = .slice (some ⟨g, off, none⟩) dLen dCap) (hs : a.eval s = .slice (some ad) sLen sCap)
    (cur : List Value) (t : TypeId) (hg : Blk w g t cur) (cs : List Value) (hn : cs.length = Nat.min sLen dLen * k)
    (hsrc : ∀ j v, cs[j]? = some v → w.cell? (ad.add j) = some v) (hfit : off + cs.length ≤ cur.length) (h1 : ∀ v ∈ cs, v.oneCell' = true)
    (h : ∀ w', Blk w' g t (setL cur off cs) → w.grownBy w' (some g) → K (a.put o.dst (goInt (Nat.min sLen dLen))) w') :
    if Region.wanted o (yielded ops a.tmps) = true then Oper.wp P o a w K Q else E := by
  have hw : Region.wanted o (yielded ops a.tmps) = true := by simp [Region.wanted, hgd]
  rw [if_pos hw]
  obtain ⟨w', hrun, h2, h3⟩ := run_copy_objs (P := P) w dT sT o.type elem k g off dLen dCap ad sLen sCap cur t cs hu hsz hg hn hsrc hfit h1
  unfold Oper.wp execOp
  simp only [ho, resolve, invoke, builtin, Sem.run_bind, Sem.run_pure, Result.andThen_ok, List.map_toArray, List.map_cons, List.map_nil, hs, hd, hrun]
  exact h w' h2 h3
/-- the beginning of a row of objects and made ones behind it, where there is no room: a new row -/
theorem run_append_made {P : Program} (w : World) (t tn ty e : TypeId) (i : TypeInfo) (z : Value) (kq kn : IntKind) (size bytes : Nat) (ht : P.underlying t = some (.slice e)) (htn : P.underlying tn = some (.int kn)) (hi : P.info? e = some i) (hz : i.zero = some z) (hsize : i.size = size) (hby : i.bytes = bytes) (hzs : z.cells.size = size) (hsz : 0 < size)
    (B : Nat) (ad : Addr) (n c : Nat) (os : List (List Value)) (hr : RdRow w B (some ad) size n os) (k : Nat) (h0 : 0 < k) (hg : c < n + k) (h63 : n + k ≤ maxLen) (hbytes : (n + k) * bytes ≤ 140737488355328) :
    ∃ w' cap cur, (Builtin.append_ #[t, tn] ty #[.slice (some ad) n c, .int kq (k : Int)]).run P w = .ok (.slice (some ⟨w.heap.size, 0, none⟩) (n + k) cap) w' ∧ Blk w' w.heap.size e cur ∧ cur.length = cap * size ∧ cur.take (n * size) = os.flatten ∧ n + k ≤ cap ∧ cap ≤ maxLen ∧ Below w.heap.size w w' := by
  have holds : ∀ j u, os.flatten[j]? = some u → w.drew.cell? (ad.add j) = some u := hr.src
  have hold := run_firstCells_some (P := P) w.drew i.size n ad n c os.flatten (by rw [hsize]; exact hr.len) holds
  have h1 : k * bytes ≤ (n + k) * bytes := Nat.mul_le_mul_right bytes (by omega)
  have hr2 := Lib.run_append_grow_zeros (P := P) w t tn ty e i z kq kn ht htn hi hz (some ad) n c os.flatten hold k h0 (by omega) hg (by unfold maxLen at h63; omega) (by rw [hby]; omega) (growslice_fits (by omega) (by rw [hby]; exact hbytes))
  have hge := grownCap_ge w (n + k) c e
  have hcm := grownCap_le_maxLen w (n + k) c e h63
  obtain ⟨cap, hcap⟩ : ∃ z, grownCap w (n + k) c e = z := ⟨_, rfl⟩
  rw [hcap] at hr2 hge hcm
  refine ⟨_, cap, (os.flatten.toArray ++ Builtin.zeroCells z.cells k ++ Builtin.zeroCells z.cells (cap - (n + k))).toList, hr2, ?_, ?_, ?_, hge, hcm, (Below.refl _ _).drew.alloc (Nat.le_refl _) _⟩
  · unfold Blk
    rw [Array.toArray_toList]
    exact heap_alloc_new w.drew _
  · rw [Array.length_toList, Array.size_append, Array.size_append, List.size_toArray, size_zeroCells, size_zeroCells, hzs, hr.len, ← Nat.add_mul, ← Nat.add_mul]
    congr 1
    omega
  · rw [Array.toList_append, Array.toList_append, List.append_assoc, List.take_left' (by rw [hr.len])]
theorem Blk.shape {w : World} {g : Nat} {t : TypeId} {cs : List Value} (h : Blk w g t cs) : w.shape? g = some (t, cs.length) := by
  unfold Blk at h
  simp [World.shape?, h]
theorem run_overlaps_blks {P : Program} {w : World} {g h : Nat} {t u : TypeId} {cs ds : List Value} (hg : Blk w g t cs) (hh : Blk w h u ds) (hne : g ≠ h) (hd : ds.length ≠ 0) (tS tR e : TypeId) (ht : P.underlying tS = some (.slice e)) (size : Nat) (hz : ∀ w, (Go.sizeOf e).run P w = .ok size w) (o p la ca lb cb : Nat) :
    (Extern.SlicesOverlaps.overlaps #[tS, tS] #[tR] #[.slice (some ⟨g, o, none⟩) la ca, .slice (some ⟨h, p, none⟩) lb cb]).run P w = .ok (.bool false) w :=
  Lib.run_overlaps_apart w tS tR e ht size hz ⟨g, o, none⟩ ⟨h, p, none⟩ la ca lb cb hne t u cs.length ds.length hg.shape hh.shape hd (hg.frozen o) (hg.frozen cs.length)
/-- what an insertion leaves: first the later ones are moved, then the new one is written -/
theorem ins_shift {cur T D o : List Value} {i k : Nat} (hT : T.length = i * k) (hc : cur.take (i * k) = T) (ho : o.length = k) (hl : i * k + k + D.length ≤ cur.length) : (setL (setL cur ((i + 1) * k) D) (i * k) o).take (i * k + k + D.length) = T ++ o ++ D ∧ (setL (setL cur ((i + 1) * k) D) (i * k) o).length = cur.length := by
  have h1 : (i + 1) * k = i * k + k := Nat.succ_mul i k
  have h2 : (setL cur ((i + 1) * k) D).take (i * k) = T := by
    rw [setL, List.append_assoc, List.take_append_of_le_length (by rw [List.length_take]; omega), List.take_take, Nat.min_eq_left (by omega), hc]
  have h3 : (setL cur ((i + 1) * k) D).drop (i * k + k) = D ++ cur.drop ((i + 1) * k + D.length) := by
    rw [setL, List.append_assoc, List.drop_left' (by rw [List.length_take]; omega)]
  constructor
  · rw [setL, ho, h2, h3, List.append_assoc, ← List.append_assoc o, ← List.append_assoc T, ← List.append_assoc T, List.take_left' (by simp [hT, ho]; omega)]
  · rw [setL, ho, h2, h3]
    simp only [List.length_append, List.length_drop, hT, ho]
    omega
/-- the same in a new row: first the new one is written, then the later ones behind it -/
theorem ins_new {cur T D o : List Value} {i k : Nat} (hT : T.length = i * k) (hc : cur.take (i * k) = T) (ho : o.length = k) (hl : i * k + k + D.length ≤ cur.length) : (setL (setL cur (i * k) o) ((i + 1) * k) D).take (i * k + k + D.length) = T ++ o ++ D ∧ (setL (setL cur (i * k) o) ((i + 1) * k) D).length = cur.length := by
  have h1 : (i + 1) * k = i * k + k := Nat.succ_mul i k
  have h2 : (setL cur (i * k) o).take ((i + 1) * k) = T ++ o := by
    rw [setL, hc, List.take_left' (by simp [hT, ho, h1])]
  have h3 : (setL cur (i * k) o).length = cur.length := by
    simp only [setL, hc, List.length_append, List.length_drop, hT, ho]
    omega
  constructor
  · rw [setL, h2, List.take_left' (by simp [hT, ho]; omega)]
  · rw [setL, h2]
    simp only [List.length_append, List.length_drop, h3, hT, ho]
    omega
theorem own_of_blk {w : World} {base k m c g : Nat} {e : TypeId} {cs xs : List Value} (hb : Blk w g e cs) (hbase : base ≤ g) (hm : m ≤ c) (hc : c ≤ maxLen) (hl : cs.length = c * k) (ht : cs.take (m * k) = xs) : w.ownsRow base e k (.slice (some ⟨g, 0, none⟩) m c) m xs := by
  have h1 := Nat.mul_le_mul_right k hm
  refine ⟨by rw [← ht, List.length_take]; omega, .inr ⟨g, c, cs.toArray, rfl, hbase, hb, hm, hc, by simpa using hl, by simpa using ht⟩⟩
end Go.Proofs.Ytpahfckihcbajaa
namespace Go.Proofs.Ytpahfckihcbajaa
open Go.RowKit

theorem int64Info : (Try.prog.info? 2).map (fun i => (i.zero, i.size, i.bytes)) = some (some (.int .i64 0), 1, 8) := by kernel_rfl
/-- what is asked of a predicate that is handed on, in every world in which what lies below B is as it was -/
def PredI (P : Program) (F : Nat) (lb : Array Value) (p : Int → Bool) (B : Nat) (w : World) (l : List Int) : Prop :=
  ∀ x ∈ l, ∀ W, Below B w W → Calls P F (#[.int .i64 x] ++ lb) W fun e W' => e = .returned (.bool (p x)) ∧ Below W.heap.size W W'
def idxI (p : Int → Bool) (l : List Int) : Int := match l.findIdx? p with
  | none => -1
  | some i => (i : Int)
theorem idxI_none {p : Int → Bool} {os : List Int} (h : ∀ o ∈ os, p o = false) : idxI p os = -1 := by
  have e : os.findIdx? p = none := List.findIdx?_eq_none_iff.2 h
  unfold idxI
  rw [e]
theorem idxI_some {p : Int → Bool} {os : List Int} {j : Nat} {o : Int} (ho : os[j]? = some o) (hp : p o = true) (hn : ∀ (q : Nat) x, q < j → os[q]? = some x → p x = false) : idxI p os = (j : Int) := by
  obtain ⟨hi, rfl⟩ := List.getElem?_eq_some_iff.1 ho
  have e : os.findIdx? p = some j := by
    rw [List.findIdx?_eq_some_iff_getElem]
    exact ⟨hi, hp, fun q hq => by simpa using hn q _ hq (List.getElem?_eq_getElem (by omega))⟩
  unfold idxI
  rw [e]
theorem allI_false {p : Int → Bool} {os : List Int} {n : Nat} (hl : os.length = n) (h : ∀ (q : Nat) x, q < n → os[q]? = some x → p x = false) : ∀ o ∈ os, p o = false := by
  intro o ho
  obtain ⟨i, hi, rfl⟩ := List.getElem_of_mem ho
  exact h i _ (by omega) (List.getElem?_eq_getElem hi)
theorem idxI_cases (p : Int → Bool) (os : List Int) : (∀ o ∈ os, p o = false) ∨ ∃ (j : Nat) (o : Int), os[j]? = some o ∧ p o = true ∧ ∀ (q : Nat) x, q < j → os[q]? = some x → p x = false := by
  cases h : os.findIdx? p with
  | none => exact .inl (List.findIdx?_eq_none_iff.1 h)
  | some j =>
    obtain ⟨hi, hp, hn⟩ := List.findIdx?_eq_some_iff_getElem.1 h
    exact .inr ⟨j, os[j], List.getElem?_eq_getElem hi, hp, fun q x hq hx => by
      obtain ⟨hqi, rfl⟩ := List.getElem?_eq_some_iff.1 hx
      simpa using hn q hq⟩
theorem int_kept_snoc (p : Int → Bool) (l : List Int) (o : Int) : (l ++ [o]).filter (fun x => !p x) = l.filter (fun x => !p x) ++ (if p o = true then [] else [o]) := by
  rw [List.filter_append]
  cases h : p o <;> simp [h]
theorem int_kept_all {p : Int → Bool} {l : List Int} (h : ∀ o ∈ l, p o = false) : l.filter (fun x => !p x) = l := by
  rw [List.filter_eq_self]
  intro o ho
  rw [h o ho]
  rfl
/-- numbers as cells -/
def ivs (l : List Int) : List Value := l.map fun x => .int .i64 x
theorem ivs_len (l : List Int) : (ivs l).length = l.length := by rw [ivs, List.length_map]
theorem ivs_at {l : List Int} {i : Nat} {x : Int} (h : l[i]? = some x) (rest : List Value) : (ivs l ++ rest)[i]? = some (.int .i64 x) := by
  rw [List.getElem?_append_left (by rw [ivs_len]; exact (List.getElem?_eq_some_iff.1 h).1), ivs, List.getElem?_map, h]
  rfl
theorem ivs_set {l : List Int} {i : Nat} (h : i < l.length) (x : Int) (rest : List Value) : (ivs l ++ rest).set i (.int .i64 x) = ivs (l.set i x) ++ rest := by
  rw [List.set_append_left _ _ (by rw [ivs_len]; exact h), ivs, ivs, List.map_set]
theorem Blk.setCell {w : World} {g : Nat} {t : TypeId} {cs : List Value} (h : Blk w g t cs) (j : Nat) (u : Value) : Blk (w.setCell ⟨g, j, none⟩ u) g t (cs.set j u) := h.set_ j u
theorem int_eql_nil (A : Option Addr) (n c : Nat) (w : World) : (binOp .eql 22 (.slice A n c) (.slice none 0 0)).run Try.prog w = .ok (.bool A.isNone) w := by
  have h := run_equal_slice_nil (P := Try.prog) w 22 2 A n c Try.underlying22
  simp [binOp, h, Result.andThen]
set_option maxRecDepth 100000 in
set_option maxHeartbeats 16000000 in
theorem intClone_any (A : Option Addr) (n c : Nat) (l : List Int) (hn : n ≤ 1000) (w : World) (hr : IntRd .i64 w w.heap.size A n l) :
    Calls Try.prog 22 #[.slice A n c] w fun e w' => ∃ A' c', e = .returned (.slice A' n c') ∧ w'.ownsRow w.heap.size 2 1 (.slice A' n c') n (intsV .i64 l).flatten ∧ Below w.heap.size w w' := by
  have HR := Lib.hid hr
  have H1 := Lib.hid (ints_one .i64 l)
  obtain ⟨ik, hik, hiz, his, hib⟩ := info_parts (P := Try.prog) (e := 2) (z := .int .i64 0) (size := 1) (bytes := 8) int64Info
  have HKI := Lib.hid (And.intro hik (And.intro hiz (And.intro his hib)))
  clear hik hiz his hib
  cases A with
  | none =>
    have hn0 : n = 0 := by
      rcases Nat.eq_zero_or_pos n with h | h
      · exact h
      · obtain ⟨b, off, e⟩ := hr.addr h
        cases e
    subst hn0
    have hl0 : l = [] := List.eq_nil_of_length_eq_zero hr.len
    subst hl0
    clear hr
    have hen := int_eql_nil none 0 c
    simp only [Option.isNone_none] at hen
    go_enter Try.func22, Try.ntmps22
    go_wp2
    go_ret
    exact ⟨none, 0, rfl, World.ownsRow_nil _ _ _ _, Below.refl _ _⟩
  | some ad =>
    have HB := Lib.hid (show Mem w [blkE w.heap.size 2 []] (w.alloc (.cells #[] 2)) from (Mem.nil w).alloc rfl 2 #[] [] rfl)
    have hown0 := World.ownsRow_lit (base := w.heap.size) (e := 2) (size := 1) w #[] 0 (Nat.le_refl _) (by simp) rfl
    have HO := Lib.hid hown0
    clear hr hown0
    have hen := int_eql_nil (some ad) n c
    simp only [Option.isNone_some] at hen
    go_enter Try.func22, Try.ntmps22
    go_wp2_with (refine wpList_append_rows _ rfl (.tmp 5) (.tmp 6) 22 rfl w.heap.size 2 ik _ 1 8 Try.underlying22 HKI.out.1 HKI.out.2.1 HKI.out.2.2.1 HKI.out.2.2.2 (by rfl) (by omega) (.slice (some ⟨w.heap.size, 0, none⟩) 0 0) 0 [] rfl HO.out _ (some ad) n c (intsV .i64 l) rfl ((HR.out.below HB.out.bel).mono HB.out.size) H1.out (by unfold maxLen; omega) (by omega) HB.out.size ?_; intro v1 w3 hown1 hg1 _)
    rw [Nat.zero_add, List.nil_append] at hown1
    obtain ⟨A5, c5, rfl, _⟩ := own_sliceK hown1
    have HF := Lib.hid (HB.out.bel.grown hg1 HB.out.bel.size (fun k hk => own_from HO.out k hk))
    go_ret
    exact ⟨A5, c5, rfl, hown1, HF.out⟩
set_option maxRecDepth 100000 in
set_option maxHeartbeats 16000000 in
theorem intIdx_any (A : Option Addr) (n c : Nat) (l : List Int) (hn : n ≤ 1000000) (F : Nat) (lb : Array Value) (hE : ∀ (args : Array Value) (W : World), (callFunc F args).run Try.prog W = .ok (.enter F args) W) (p : Int → Bool) (B : Nat) (w : World) (hB : B ≤ w.heap.size) (hr : IntRd .i64 w w.heap.size A n l) (hf : PredI Try.prog F lb p B w l) :
    Calls Try.prog 37 #[.slice A n c, .func (.func F) #[] lb] w fun e w' => e = .returned (.int .i64 (idxI p l)) ∧ Below w.heap.size w w' := by
  have HR := Lib.hid hr
  have HF := Lib.hid hf
  have HB := Lib.hid hB
  clear hr hf hB
  go_enter Try.func37, Try.ntmps37
  go_wp2_with fail
  go_loopw [8] (fun i wr => ∃ j : Nat, j ≤ n ∧ i = .int .i64 (j : Int) ∧ Below w.heap.size w wr ∧ ∀ (q : Nat) x, q < j → l[q]? = some x → p x = false) (fun i _ => n - (intOf i).toNat)
  case atStart => exact ⟨0, Nat.zero_le _, rfl, Below.refl _ _, fun q _ h => absurd h (Nat.not_lt_zero _)⟩
  case round =>
    obtain ⟨j, hj, rfl, hW, hno⟩ := hrel
    have HW := Lib.hid hW
    have HNO := Lib.hid hno
    clear hW hno
    by_cases hjn : j < n
    · have d1 : decide ((j : Int) < (n : Int)) = true := by simp; omega
      obtain ⟨b, off, rfl⟩ := HR.out.addr (by omega)
      obtain ⟨o, ho⟩ : ∃ o, l[j]? = some o := ⟨l[j]'(by rw [HR.out.len]; exact hjn), List.getElem?_eq_getElem _⟩
      have fx := ((HR.out.below HW.out).at j o ho).2
      have hcall := HF.out o (List.mem_of_getElem? ho) wr (HW.out.mono HB.out)
      obtain ⟨y, hy⟩ : ∃ y, p o = y := ⟨_, rfl⟩
      rw [hy] at hcall
      have HC := Lib.hid hcall
      have HJO := Lib.hid (And.intro ho hy)
      clear ho hcall hy
      go_wp2_with fail
      refine HC.out.mono ?_
      rintro e w2 ⟨rfl, hb⟩
      have HW2 := Lib.hid (HW.out.trans (hb.mono HW.out.size))
      clear hb HW HC fx
      cases y with
      | true =>
        go_wp2
        go_ret
        exact ⟨by rw [idxI_some HJO.out.1 HJO.out.2 HNO.out]; rfl, HW2.out⟩
      | false =>
        go_wp2_with fail
        go_roundw
        case rel => exact ⟨j + 1, by omega, by go_num, HW2.out, fun q x hq hx => by
          rcases Nat.lt_or_ge q j with h | h
          · exact HNO.out q x h hx
          · obtain rfl : q = j := by omega
            have e := HJO.out.1.symm.trans hx
            injection e with e
            rw [← e]
            exact HJO.out.2⟩
        case measure => simp [intOf]; omega
    · obtain rfl : j = n := by omega
      have d1 : decide ((j : Int) < (j : Int)) = false := by simp
      have HF2 := Lib.hid HW.out
      have HX := Lib.hid (idxI_none (allI_false HR.out.len HNO.out))
      clear HW HNO
      go_wp2
      go_ret
      exact ⟨by rw [HX.out]; rfl, HF2.out⟩
set_option maxRecDepth 100000 in
set_option maxHeartbeats 16000000 in
theorem intDel_any (A : Option Addr) (n c : Nat) (l : List Int) (hn : n ≤ 1000) (hl : l.length = n) (F : Nat) (lb : Array Value) (hE : ∀ (args : Array Value) (W : World), (callFunc F args).run Try.prog W = .ok (.enter F args) W) (p : Int → Bool) (B base : Nat) (w : World) (hB : B ≤ base) (hbs : base ≤ w.heap.size) (hown : w.ownsRow base 2 1 (.slice A n c) n (intsV .i64 l).flatten) (hf : PredI Try.prog F lb p B w l) :
    Calls Try.prog 21 #[.slice A n c, .func (.func F) #[] lb] w fun e w' => ∃ A' c' m, m = (l.filter fun o => !p o).length ∧ e = .returned (.slice A' m c') ∧ w'.ownsRow base 2 1 (.slice A' m c') m (intsV .i64 (l.filter fun o => !p o)).flatten ∧ Below base w w' := by
  have hr : IntRd .i64 w w.heap.size A n l := RdRow.of_own (by rw [intsV_len, hl]) (by intro o ho; obtain ⟨_, _, rfl⟩ := List.mem_map.1 ho; rfl) hown
  have hidx := intIdx_any A n c l (by omega) F lb hE p B w (by omega) hr hf
  obtain ⟨A5, c5, hv5, hc1, hc2, hlo⟩ := own_sliceK hown
  injection hv5 with hA5 _ hc5
  subst hA5 hc5
  rcases idxI_cases p l with hno | ⟨i0, o0, ho0, hp0, hn0⟩
  · rw [idxI_none hno] at hidx
    have HI := Lib.hid hidx
    have HX := Lib.hid (int_kept_all hno)
    have HOWN := Lib.hid hown
    have HL := Lib.hid hl
    have HBS := Lib.hid hbs
    clear hidx hr hc1 hc2 hlo hown hf hno hbs
    go_enter Try.func21, Try.ntmps21
    go_wp2_with fail
    refine HI.out.mono ?_
    rintro e w2 ⟨rfl, hb⟩
    have HW := Lib.hid hb
    clear hb
    go_wp2
    go_ret
    exact ⟨A, c, n, by rw [HX.out]; exact HL.out.symm, rfl, by rw [HX.out]; exact own_below HOWN.out HW.out, HW.out.mono HBS.out⟩
  · rw [idxI_some ho0 hp0 hn0] at hidx
    have hi0 : i0 < n := by rw [← hl]; exact (List.getElem?_eq_some_iff.1 ho0).1
    rcases hown.2 with ⟨_, h0⟩ | ⟨g, cap, cur, hv, hbg, hg, hnc, hcm, hs, hcr⟩
    · omega
    injection hv with hA _ hcc
    subst hA hcc
    have hblk : Blk w g 2 (ivs l ++ cur.toList.drop (n * 1)) := by
      unfold Blk
      rw [ivs, ← intsV_flat, ← hcr, List.take_append_drop, Array.toArray_toList]
      exact hg
    obtain ⟨rest, hrest⟩ : ∃ z, cur.toList.drop (n * 1) = z := ⟨_, rfl⟩
    have HREST := Lib.hid (show n + rest.length = c from by rw [← hrest, List.length_drop, Array.length_toList, hs]; omega)
    rw [hrest] at hblk
    have hkeep : (l.take (i0 + 1)).filter (fun x => !p x) = l.take i0 := by
      rw [List.take_add_one, ho0, Option.toList_some, int_kept_snoc, if_pos hp0, List.append_nil]
      exact int_kept_all (fun o ho => by
        obtain ⟨q, hq, rfl⟩ := List.getElem_of_mem ho
        rw [List.length_take] at hq
        exact hn0 q _ (by omega) (by rw [List.getElem_take]; exact List.getElem?_eq_getElem (by omega)))
    have HI := Lib.hid hidx
    have HKEEP := Lib.hid hkeep
    have HBLK := Lib.hid hblk
    have HBG := Lib.hid (show B ≤ g ∧ base ≤ g from ⟨by omega, hbg⟩)
    have HC := Lib.hid (And.intro hnc hcm)
    have HL := Lib.hid hl
    have HF := Lib.hid hf
    have d0 : ((i0 : Int) == -1) = false := by rw [beq_eq_false_iff_ne]; omega
    clear hidx hr hc1 hc2 hlo hown hf hkeep hblk hbg hg hs hcr hrest hl hnc hcm hn0 hp0 ho0 hB hbs
    go_enter Try.func21, Try.ntmps21
    go_wp2_with fail
    refine HI.out.mono ?_
    rintro e w2 ⟨rfl, hb⟩
    have HW := Lib.hid (And.intro (hb.mono (Nat.le_of_lt HBLK.out.lt)) (show Blk w2 g 2 (ivs l ++ rest) from HBLK.out.below hb HBLK.out.lt))
    clear hb HI
    go_wp2_with fail
    go_loopw [6, 5] (fun vj vi wr => ∃ (j m : Nat) (cs : List Int), i0 < j ∧ j ≤ n ∧ vj = .int .i64 (j : Int) ∧ vi = .int .i64 (m : Int) ∧ m < j ∧ cs.length = n ∧ cs.take m = (l.take j).filter (fun x => !p x) ∧ cs.drop j = l.drop j ∧ Blk wr g 2 (ivs cs ++ rest) ∧ Below g w wr) (fun vj _ _ => n - (intOf vj).toNat)
    case atStart => exact ⟨i0 + 1, i0, l, by omega, by omega, by go_num, rfl, by omega, HL.out, HKEEP.out.symm, rfl, HW.out.2, HW.out.1⟩
    case round =>
      clear HW d0 HBLK
      obtain ⟨j, m, cs, hij, hj, rfl, rfl, hmj, hcl, htk, hdr, hbk, hbl⟩ := hrel
      have HO := Lib.hid (And.intro hcl (And.intro htk (And.intro hdr (And.intro hbk hbl))))
      clear hcl htk hdr hbk hbl
      by_cases hjn : j < n
      · have d1 : decide ((j : Int) < (n : Int)) = true := by simp; omega
        obtain ⟨o, ho⟩ : ∃ o, l[j]? = some o := ⟨l[j]'(by rw [HL.out]; exact hjn), List.getElem?_eq_getElem _⟩
        have hoc : cs[j]? = some o := by
          have h := congrArg (fun l => l[0]?) HO.out.2.2.1
          simp only [List.getElem?_drop, Nat.add_zero] at h
          rw [h]
          exact ho
        have fx : wr.cell? ⟨g, j, none⟩ = some (.int .i64 o) := by rw [HO.out.2.2.2.1.cell]; exact ivs_at hoc rest
        have HSN := Lib.hid (show (l.take (j + 1)).filter (fun x => !p x) = (l.take j).filter (fun x => !p x) ++ (if p o = true then [] else [o]) from by rw [List.take_add_one, ho, Option.toList_some, int_kept_snoc])
        have hcall := HF.out o (List.mem_of_getElem? ho)
        obtain ⟨y, hy⟩ : ∃ y, p o = y := ⟨_, rfl⟩
        rw [hy] at hcall HSN
        have HCL := Lib.hid hcall
        clear hcall hy ho hoc
        go_wp2_with fail
        refine (HCL.out _ (HO.out.2.2.2.2.mono HBG.out.1)).mono ?_
        rintro e w5 ⟨rfl, hb⟩
        have HO5 := Lib.hid (show Blk w5 g 2 (ivs cs ++ rest) ∧ Below g w w5 from ⟨HO.out.2.2.2.1.below hb HO.out.2.2.2.1.lt, HO.out.2.2.2.2.trans (hb.mono (Nat.le_of_lt HO.out.2.2.2.1.lt))⟩)
        have HCC := Lib.hid (And.intro HO.out.1 (And.intro HO.out.2.1 HO.out.2.2.1))
        clear hb fx HCL HO
        cases y with
        | true =>
          go_wp2_with fail
          go_roundw
          case rel => exact ⟨j + 1, m, cs, by omega, by omega, by go_num, rfl, by omega, HCC.out.1, by rw [HSN.out]; simpa using HCC.out.2.1, by rw [← List.drop_drop, HCC.out.2.2, List.drop_drop], HO5.out.1, HO5.out.2⟩
          case measure => simp [intOf]; omega
        | false =>
          have hmn : m < n := by omega
          have e1 : decide ((m : Int) < (n : Int)) = true := by simp; omega
          obtain ⟨o2, ho2⟩ : ∃ o2, cs[m]? = some o2 := ⟨cs[m]'(by rw [HCC.out.1]; exact hmn), List.getElem?_eq_getElem _⟩
          have fm : w5.cell? ⟨g, m, none⟩ = some (.int .i64 o2) := by rw [HO5.out.1.cell]; exact ivs_at ho2 rest
          have zm := HO5.out.1.frozen m
          clear ho2
          go_wp2_with fail
          have hb6 := HO5.out.1.setCell m (.int .i64 o)
          rw [ivs_set (by rw [HCC.out.1]; exact hmn)] at hb6
          have HB6 := Lib.hid (And.intro hb6 (HO5.out.2.setCell (p := ⟨g, m, none⟩) (Nat.le_refl _) (.int .i64 o)))
          clear hb6
          go_roundw
          case rel => exact ⟨j + 1, m + 1, cs.set m o, by omega, by omega, by go_num, by go_num, by omega, by rw [List.length_set]; exact HCC.out.1, by rw [HSN.out, ← HCC.out.2.1, List.take_add_one, List.take_set_of_le (Nat.le_refl _), List.getElem?_set_self (by rw [HCC.out.1]; exact hmn)]; rfl, by rw [List.drop_set_of_lt (by omega), ← List.drop_drop, HCC.out.2.2, List.drop_drop], HB6.out.1, HB6.out.2⟩
          case measure => simp [intOf]; omega
      · obtain rfl : n = j := by omega
        have d1 : decide ((n : Int) < (n : Int)) = false := by simp
        have htk : cs.take m = l.filter (fun x => !p x) := by rw [HO.out.2.1, List.take_of_length_le (by rw [HL.out]; exact Nat.le_refl _)]
        have hml : (l.filter fun x => !p x).length = m := by rw [← htk, List.length_take, HO.out.1]; omega
        have hlen : (ivs cs ++ rest).length = c := by rw [List.length_append, ivs_len, HO.out.1]; exact HREST.out
        have hzl : (Value.int .i64 0).cells.size = 1 := rfl
        obtain ⟨z, hz⟩ : ∃ z, n - m = z := ⟨_, rfl⟩
        have hmc := HC.out
        have HFIT := Lib.hid (show m + z * (Value.int .i64 0).cells.size ≤ (ivs cs ++ rest).length from by rw [hzl, hlen]; omega)
        have HZP := Lib.hid (show 0 < z from by omega)
        have HTK := Lib.hid (And.intro htk hml)
        have HSL := Lib.hid (show ∀ Z, setL (ivs cs ++ rest) m Z = ivs (cs.take m) ++ (Z ++ (ivs cs ++ rest).drop (m + Z.length)) from fun Z => by
          rw [setL, List.take_append_of_le_length (by rw [ivs_len, HO.out.1]; omega), ivs, ivs, ← List.map_take, List.append_assoc])
        have hsl := fun W => ints_l Try.underlying22 int64Info (some ⟨g, 0, none⟩) n c m (by omega) W
        rw [addrK_some (show m < c by omega), Nat.zero_add, Nat.mul_one, hz] at hsl
        have hsh := fun W => ints_h Try.underlying22 int64Info (n := n) (some ⟨g, 0, none⟩) c m (by omega) HC.out.1 W
        rw [addrK_zero_some] at hsh
        have HGB := Lib.hid HO.out.2.2.2
        obtain ⟨blkc, hbc⟩ : ∃ z, ivs cs ++ rest = z := ⟨_, rfl⟩
        have HTL := Lib.hid (show (ivs (cs.take m)).length = m from by rw [ivs_len, List.length_take, HO.out.1]; omega)
        have HBL := Lib.hid (show blkc.length = c from by rw [← hbc, hlen])
        rw [hbc] at HGB HFIT HSL
        clear HO htk hml hlen hzl hbc hz
        obtain ⟨cm, hcm⟩ : ∃ x, c - m = x := ⟨_, rfl⟩
        rw [hcm] at hsl
        clear hcm
        go_wp2_with (refine wpList_clear_objs _ rfl (.tmp 38) 22 2 rfl Try.underlying22 (.int .i64 0) (by intro W; obtain ⟨i0, hi, hz, _, _⟩ := info_parts int64Info; simp [zeroValue, typeInfo, hi, hz]) (by decide) g m z cm rfl 2 blkc HGB.out.1 HFIT.out HZP.out ?_; intro w7 hb7 hg7)
        go_ret
        rw [HSL.out] at hb7
        refine ⟨some ⟨g, 0, none⟩, c, m, HTK.out.2.symm, rfl, ?_, (HGB.out.2.grown hg7 (Nat.le_of_lt HGB.out.1.lt) (fun k hk => by injection hk with hk; omega)).mono HBG.out.2⟩
        rw [← HTK.out.1]
        refine own_of_blk hb7 HBG.out.2 (by omega) hmc.2 ?_ (by rw [Nat.mul_one, intsV_flat]; exact List.take_left' HTL.out)
        have h1 := HBL.out
        have h2 := HFIT.out
        have h3 := HTL.out
        rw [show (Builtin.zeroCells (Value.int .i64 0).cells z).toList.length = z * (Value.int .i64 0).cells.size by simp [Builtin.zeroCells]]
        simp only [List.length_append, List.length_drop]
        rw [show (Builtin.zeroCells (Value.int .i64 0).cells z).toList.length = z * (Value.int .i64 0).cells.size by simp [Builtin.zeroCells]]
        omega
end Go.Proofs.Ytpahfckihcbajaa
namespace Go.Proofs.Ytpahfckihcbajaa
open Go.RowKit

set_option maxRecDepth 100000 in
set_option maxHeartbeats 8000000 in
theorem pSince_any (t now : Int) (w : World) :
    Calls Try.prog 38 #[.int .i64 t, .int .i64 now] w fun e w' => e = .returned (.int .u64 (IntKind.u64.wrap (IntKind.u64.wrap now - IntKind.u64.wrap t))) ∧ w' = w := by
  obtain ⟨un, hun⟩ : ∃ z, IntKind.u64.wrap now = z := ⟨_, rfl⟩
  obtain ⟨ut, hut⟩ : ∃ z, IntKind.u64.wrap t = z := ⟨_, rfl⟩
  rw [hun, hut]
  obtain ⟨ud, hud⟩ : ∃ z, IntKind.u64.wrap (un - ut) = z := ⟨_, rfl⟩
  rw [hud]
  go_enter Try.func38, Try.ntmps38
  go_wp2
  go_ret
  exact ⟨rfl, rfl⟩
theorem since_is {t now : Int} (ht : inI64 t) (hn : inI64 now) (h : t ≤ now) : IntKind.u64.wrap (IntKind.u64.wrap now - IntKind.u64.wrap t) = now - t := by
  obtain ⟨un, hun⟩ : ∃ z, IntKind.u64.wrap now = z := ⟨_, rfl⟩
  obtain ⟨ut, hut⟩ : ∃ z, IntKind.u64.wrap t = z := ⟨_, rfl⟩
  rw [hun, hut]
  rw [IntKind.wrap_u64] at hun hut ⊢
  have := ht.1
  have := hn.2
  omega
set_option maxRecDepth 100000 in
set_option maxHeartbeats 8000000 in
theorem pRecent_any (t now : Int) (ht : inI64 t) (hn : inI64 now) (w : World) :
    Calls Try.prog 24 #[.int .i64 t, .int .i64 now] w fun e w' => e = .returned (.bool (recentM now t)) ∧ w' = w := by
  obtain ⟨y, hy⟩ : ∃ y, recentM now t = y := ⟨_, rfl⟩
  rw [hy]
  rw [recentM] at hy
  by_cases hl : t ≤ now
  · have d1 : decide (t ≤ now) = true := decide_eq_true hl
    have hs := pSince_any t now w
    rw [since_is ht hn hl] at hs
    obtain ⟨dd, hdd⟩ : ∃ z, now - t = z := ⟨_, rfl⟩
    rw [hdd] at hs
    rw [d1, hdd, Bool.true_and] at hy
    have HS := Lib.hid hs
    clear hs hl hdd ht hn
    go_enter Try.func24, Try.ntmps24
    go_wp2_with fail
    refine HS.out.mono ?_
    rintro e w' ⟨rfl, rfl⟩
    clear HS
    go_wp2
    go_ret
    exact ⟨rfl, rfl⟩
  · have d1 : decide (t ≤ now) = false := decide_eq_false hl
    rw [d1, Bool.false_and] at hy
    subst hy
    clear hl ht hn
    go_enter Try.func24, Try.ntmps24
    go_wp2
    go_ret
    exact ⟨rfl, rfl⟩
set_option maxRecDepth 100000 in
set_option maxHeartbeats 8000000 in
theorem pOld_any (t now : Int) (ht : inI64 t) (hn : inI64 now) (g : Nat) (w : World) (hb : Blk w g 2 [.int .i64 now]) :
    Calls Try.prog 23 #[.int .i64 t, .pointer (some ⟨g, 0, none⟩)] w fun e w' => e = .returned (.bool (!recentM now t)) ∧ Below w.heap.size w w' := by
  have hr := pRecent_any t now ht hn w
  obtain ⟨y, hy⟩ : ∃ y, recentM now t = y := ⟨_, rfl⟩
  rw [hy] at hr ⊢
  have HR := Lib.hid hr
  have fg := hb.all 0 _ rfl
  simp only [Nat.add_zero] at fg
  clear hr hy hb
  go_enter Try.func23, Try.ntmps23
  go_wp2_with fail
  refine HR.out.mono ?_
  rintro e w' ⟨rfl, rfl⟩
  clear HR
  go_wp2
  go_ret
  exact ⟨rfl, Below.refl _ _⟩
theorem pIns_snoc (l : List Int) (x : Int) : (intsV .i64 (l ++ [x])).flatten = (intsV .i64 l).flatten ++ [.int .i64 x] := by simp [intsV]
theorem pFilter_snoc {l : List Int} {j : Nat} {x now : Int} (h : l[j]? = some x) : (l.take (j + 1)).filter (recentM now) = (l.take j).filter (recentM now) ++ if recentM now x = true then [x] else [] := by
  rw [take_snoc h, List.filter_append]
  congr 1
  by_cases hx : recentM now x = true
  · rw [if_pos hx]; simp [hx]
  · rw [if_neg hx]; simp [hx]
set_option maxRecDepth 100000 in
set_option maxHeartbeats 8000000 in
theorem pNote_any : LmNoteC 7 := by
  intro A n c l now w hnc hcm hn1 hr hl hnow
  obtain ⟨i0, hti, hz0, hz1, hz2⟩ := info_parts (P := Try.prog) (e := 2) (z := .int .i64 0) (size := 1) (bytes := 8) int64Info
  have HM := Lib.hid (show Mem w [blkE w.heap.size 2 [.int .i64 now]] (w.alloc (.cells #[.int .i64 now] 2)) from (Mem.nil w).alloc rfl 2 #[.int .i64 now] [.int .i64 now] rfl)
  have HIN := Lib.hid hl
  have HNOW := Lib.hid hnow
  have HLN := Lib.hid hr.len
  have HR := Lib.hid hr
  clear hr hl hnow hnc hcm
  go_enter Try.func7, Try.ntmps7
  go_upto_region 1 with fail
  generalize w.alloc (.cells #[.int .i64 now] 2) = w1 at HM ⊢
  go_wp2_with fail
  refine (intClone_any A n c l hn1 w1 ((HR.out.below HM.out.bel).mono HM.out.bel.size)).mono ?_
  rintro e w2 ⟨A2, c2, rfl, hown, hb⟩
  have HG := Lib.hid (show w.heap.size < w1.heap.size from (HM.out.blk 0 rfl).lt)
  have HD := Lib.hid (intDel_any A2 n c2 l hn1 HLN.out 23 #[.pointer (some ⟨w.heap.size, 0, none⟩)] (enters_of Try.func23 (by kernel_rfl) rfl) (fun t => !recentM now t) w1.heap.size w1.heap.size w2 (Nat.le_refl _) hb.size hown (by
    intro x hx W hW
    exact pOld_any x now (HIN.out x hx) HNOW.out _ W ((HM.out.blk 0 rfl).below (hb.trans hW) (HM.out.blk 0 rfl).lt)))
  have HM2 := Lib.hid (And.intro (show Blk w1 w.heap.size 2 [.int .i64 now] from HM.out.blk 0 rfl) (HM.out.bel.trans (hb.mono (Nat.le_of_lt HG.out))))
  have HB2 := Lib.hid hb
  clear hown hb
  go_wp2_with fail
  refine HD.out.mono ?_
  rintro e w3 ⟨A3, c3, m, hm, rfl, hown, hb⟩
  rw [show (l.filter fun o => !(!recentM now o)) = l.filter (recentM now) from by simp] at hm hown
  have HX := Lib.hid (show Blk w3 w.heap.size 2 [.int .i64 now] from HM2.out.1.below (HB2.out.trans hb) HG.out)
  have HB3 := Lib.hid (And.intro (HM2.out.2.trans (hb.mono (Nat.le_of_lt HG.out))) (Nat.le_trans HB2.out.size hb.size))
  have hfl : m ≤ 1000 := by
    have h1 := List.length_filter_le (recentM now) l
    have h2 := HLN.out
    omega
  obtain ⟨L, hL⟩ : ∃ z, noteM l now = z := ⟨_, rfl⟩
  have HL := Lib.hid hL
  rw [noteM] at hL
  generalize l.filter (recentM now) = fl at hm hown hL
  replace hm := hm.symm
  have HMM := Lib.hid hm
  rw [List.length_append, hm] at hL
  simp only [List.length_cons, List.length_nil, Nat.zero_add] at hL
  obtain ⟨q, hq⟩ : ∃ q, m + 1 - 64 = q := ⟨_, rfl⟩
  rw [hq] at hL
  have HLL := Lib.hid hL
  obtain ⟨d, hd⟩ : ∃ z, ((m + 1 : Nat) : Int) - 64 = z := ⟨_, rfl⟩
  have hd2 : (m : Int) + 1 - 64 = d := by omega
  have HMX := Lib.hid (show max 0 d = (q : Int) from by omega)
  have HMX2 := Lib.hid (show max d 0 = (q : Int) from by omega)
  have w1' : IntKind.i64.wrap d = d := by rw [IntKind.wrap_i64]; omega
  have HQL := Lib.hid (show q ≤ m + 1 from by omega)
  have HLO := Lib.hid (own_sliceK hown)
  have fg := HX.out.all 0 _ rfl
  simp only [Nat.add_zero] at fg
  generalize w1.heap.size = B1 at hown HG HB3 HLO
  have HOWN := Lib.hid hown
  clear hm hL hq hb HD HM HM2 HB2 hown
  go_upto_region 3 with (at_builtin; refine wpList_append_own _ rfl (.tmp 11) (.tmp 13) 22 rfl B1 2 i0 (.int .i64 0) 1 8 Try.underlying22 hti hz0 hz1 hz2 rfl (by omega) (.slice A3 m c3) m _ rfl (HOWN.out.alloc _) ⟨w3.heap.size, 0, none⟩ 1 1 [.int .i64 now] rfl rfl (cell_one_new _ _ _) (fun u hu => by simp only [List.mem_singleton] at hu; subst hu; rfl) (by unfold maxLen; omega) (by omega) (by have := HB3.out.2; simp; omega) ?_; intro v' w' hown' hg' _)
  have HB4 := Lib.hid (((HB3.out.1.alloc HB3.out.1.size _).grown hg' (by have := HB3.out.1.size; simp; omega) (fun k hk => Nat.le_trans (Nat.le_of_lt HG.out) (own_from HOWN.out k hk))))
  obtain ⟨A4, c4, rfl, hnc2, hcm2, hfr⟩ := own_sliceK hown'
  have HFR := Lib.hid ((Fresh.addrK (show Fresh B1 A4 from hfr) q c4 1).mono (Nat.le_of_lt HG.out))
  clear hfr fg HLO
  have HRD := Lib.hid (show IntRd .i64 w' w'.heap.size A4 (m + 1) (fl ++ [now]) from RdRow.of_own (by rw [intsV_len, List.length_append, HMM.out]; rfl) (by intro o ho; obtain ⟨_, _, rfl⟩ := List.mem_map.1 ho; rfl) (by rw [pIns_snoc]; exact hown'))
  have HNC := Lib.hid (And.intro hnc2 hcm2)
  have hsl := fun W => ints_l Try.underlying22 int64Info A4 (m + 1) c4 q HQL.out W
  have HBH := Lib.hid (RdRow.behind HRD.out q c4 HQL.out hnc2)
  obtain ⟨A5, hA5⟩ : ∃ z, addrK A4 q c4 1 = z := ⟨_, rfl⟩
  rw [hA5] at hsl HBH HFR
  clear HOWN hown' hg' hnc2 hcm2 hA5
  go_wp2_with (refine wpList_max_k rfl (.tmp 18) (.const (.int .i64 0)) _ rfl .i64 d 0 (q : Int) rfl rfl HMX2.out ?_)
  go_ret
  exact ⟨A5, m + 1 - q, c4 - q, rfl, by have := HNC.out; omega, by have := HNC.out; omega, by rw [HL.out, ← HLL.out]; have h := HBH.out; rw [intsV_drop] at h; exact h, HFR.out, HB4.out⟩
set_option maxRecDepth 100000 in
set_option maxHeartbeats 8000000 in
theorem pLoaded_any : LmLoadedC 11 := by
  intro A n c l now load w hn1 hr hl hnow hld
  have HR := Lib.hid hr
  have HLN := Lib.hid hr.len
  have HIN := Lib.hid hl
  have HREC := Lib.hid (fun (t : Int) (ht : inI64 t) (W : World) => pRecent_any t now ht hnow W)
  have HLD := Lib.hid hld
  clear hr hl hnow hld
  go_enter Try.func11, Try.ntmps11
  go_wp2_with fail
  go_loopw [7, 12] (fun v i wr => ∃ j : Nat, j ≤ n ∧ i = .int .i64 (j : Int) ∧ v = .int .i64 (((l.take j).filter (recentM now)).length : Int) ∧ wr = w) (fun _ i _ => n - (intOf i).toNat)
  case atStart => exact ⟨0, Nat.zero_le _, rfl, rfl, rfl⟩
  case round =>
    obtain ⟨j, hj, rfl, rfl, rfl⟩ := hrel
    have hfl : ((l.take j).filter (recentM now)).length ≤ 1000 := by
      have h1 := List.length_filter_le (recentM now) (l.take j)
      rw [List.length_take] at h1
      omega
    by_cases hjn : j < n
    · have d1 : decide ((j : Int) < (n : Int)) = true := by simp; omega
      obtain ⟨x, hx⟩ : ∃ x, l[j]? = some x := ⟨l[j]'(by rw [HLN.out]; exact hjn), List.getElem?_eq_getElem _⟩
      have HX := Lib.hid (HIN.out x (List.mem_of_getElem? hx))
      obtain ⟨b, off, rfl⟩ := HR.out.addr (by omega)
      have fx := (HR.out.at j x hx).2
      have HNX := Lib.hid (pFilter_snoc (now := now) hx)
      generalize (l.take j).filter (recentM now) = fl at hfl HNX ⊢
      obtain ⟨m, hm⟩ : ∃ m, fl.length = m := ⟨_, rfl⟩
      rw [hm] at hfl ⊢
      have HMM := Lib.hid hm
      obtain ⟨y, hy⟩ : ∃ y, recentM now x = y := ⟨_, rfl⟩
      have hcall := HREC.out x HX.out wr
      rw [hy] at hcall HNX
      have HCALL := Lib.hid hcall
      clear hm hy hcall hx
      go_wp2_with fail
      refine HCALL.out.mono ?_
      rintro e wq ⟨rfl, rfl⟩
      clear fx HCALL
      cases y with
      | true =>
        replace HNX := Lib.hid (show (l.take (j + 1)).filter (recentM now) = fl ++ [x] from by have h := HNX.out; rwa [if_pos rfl] at h)
        go_wp2_with fail
        go_roundw
        case rel => exact ⟨j + 1, by omega, by go_num, by rw [HNX.out, List.length_append, HMM.out]; show _ = Value.int .i64 ((m + 1 : Nat) : Int); go_num, by first | rfl | trivial⟩
        case measure => simp [intOf]; omega
      | false =>
        replace HNX := Lib.hid (show (l.take (j + 1)).filter (recentM now) = fl from by have h := HNX.out; rwa [if_neg (by simp), List.append_nil] at h)
        go_wp2_with fail
        go_roundw
        case rel => exact ⟨j + 1, by omega, by go_num, by rw [HNX.out, HMM.out], by first | rfl | trivial⟩
        case measure => simp [intOf]; omega
    · obtain rfl : j = n := by omega
      have d1 : decide ((j : Int) < (j : Int)) = false := by simp
      have HY := Lib.hid (show loadedM l now load = decide ((((l.take j).filter (recentM now)).length : Int) > load) from by rw [List.take_of_length_le (by rw [HLN.out]; exact Nat.le_refl _)]; rfl)
      generalize ((l.take j).filter (recentM now)).length = m at hfl HY ⊢
      obtain ⟨y, hy⟩ : ∃ y, decide ((m : Int) > load) = y := ⟨_, rfl⟩
      rw [hy] at HY
      go_wp2
      go_ret
      exact ⟨by rw [HY.out]; rfl, Below.refl _ _⟩
end Go.Proofs.Ytpahfckihcbajaa
namespace Go.Proofs.Ytpahfckihcbajaa
open Go.RowKit

def bucketZ : List Value := bk0.cells
theorem bucketZ_length : bucketZ.length = 19 := by decide
theorem bucketInfo : ∃ i, Try.prog.info? 44 = some i ∧ i.zero = some (.agg bucketZ.toArray) ∧ i.size = 19 ∧ i.bytes = 40 := bkInfo
end Go.Proofs.Ytpahfckihcbajaa
namespace Go.Proofs.Ytpahfckihcbajaa
open Go.RowKit

theorem bk_size (o : List Value) (h : o.length = 19) : (Try.prog.info? 44).map (·.size) = some o.length := by
  rw [h]; kernel_rfl
theorem bk_under : Try.prog.underlying 32 = some (.slice (Try.prog.elem 32)) := by kernel_rfl
theorem bk_elem : Try.prog.elem 32 = 44 := by kernel_rfl
theorem bk_sizeOf (w : World) : (sizeOf (Try.prog.elem 32)).run Try.prog w = .ok 19 w := by
  obtain ⟨i0, hi, _, hs, _⟩ := bucketInfo
  rw [bk_elem]
  simp [sizeOf, typeInfo, hi, hs]
theorem bk_zero (w : World) : (zeroValue 44).run Try.prog w = .ok (.agg bucketZ.toArray) w := by
  obtain ⟨i0, hi, hz, _, _⟩ := bucketInfo
  simp [zeroValue, typeInfo, hi, hz]
set_option maxRecDepth 100000 in
theorem bk_l (A : Option Addr) (n c i : Nat) (h2 : i ≤ n) (w : World) : (Instr.sliceAt 32 (.slice A n c) (some (.int .i64 (i : Int))) none none).run Try.prog w = .ok (.slice (addrK A i c 19) (n - i) (c - i)) w := by
  rw [run_sliceAt_slice (P := Try.prog) (w := w) 32 _ _ _ _ bk_under, run_slice_l (P := Try.prog) (w := w) 32 A n c bk_under .i64 i (by omega) (by omega), bk_sizeOf]
  simp only [Result.andThen, sliced, Int.toNat_natCast]
  rfl
set_option maxRecDepth 100000 in
theorem bk_h {n : Nat} (A : Option Addr) (c j : Nat) (h2 : j ≤ n) (h3 : n ≤ c) (w : World) : (Instr.sliceAt 32 (.slice A n c) none (some (.int .i64 (j : Int))) none).run Try.prog w = .ok (.slice (addrK A 0 c 19) j c) w := by
  rw [run_sliceAt_slice (P := Try.prog) (w := w) 32 _ _ _ _ bk_under, run_slice_h (P := Try.prog) (w := w) 32 A n c bk_under .i64 j (by omega) (by omega), bk_sizeOf]
  simp only [Result.andThen, sliced, Int.toNat_natCast, Nat.sub_zero]
  rfl
end Go.Proofs.Ytpahfckihcbajaa
namespace Go.Proofs.Ytpahfckihcbajaa
open Go.RowKit

theorem flat_cell {k : Nat} {rest : List Value} : ∀ {cs : List (List Value)}, (∀ o ∈ cs, o.length = k) → ∀ (j : Nat) (o : List Value), cs[j]? = some o → ∀ (i : Nat) (v : Value), i < k → (cs.flatten ++ rest).set (j * k + i) v = (cs.set j (o.set i v)).flatten ++ rest
  | [], _, j, o, hj, _, _, _ => by simp at hj
  | a :: r, h, 0, o, hj, i, v, hi => by
    simp only [List.getElem?_cons_zero, Option.some.injEq] at hj
    subst hj
    have ha := h a (List.mem_cons_self ..)
    rw [Nat.zero_mul, Nat.zero_add, List.set_cons_zero, List.flatten_cons, List.flatten_cons, List.append_assoc, List.append_assoc, List.set_append_left _ _ (by omega)]
  | a :: r, h, j + 1, o, hj, i, v, hi => by
    have ha := h a (List.mem_cons_self ..)
    have ih := flat_cell (rest := rest) (fun x hx => h x (List.mem_cons_of_mem _ hx)) j o (by simpa using hj) i v hi
    rw [List.set_cons_succ, List.flatten_cons, List.flatten_cons, List.append_assoc, List.append_assoc, ← ih, Nat.succ_mul, List.set_append_right _ _ (by omega), ha]
    congr 2
    omega
end Go.Proofs.Ytpahfckihcbajaa
namespace Go.Proofs.Ytpahfckihcbajaa
open Go.RowKit

theorem bkOwn_blk {w : World} {base n c : Nat} {A : Option Addr} {l : List BucketM} (h : w.ownsRow base 44 19 (.slice A n c) n (bksV l).flatten) (hn : 0 < n) : ∃ g rest, A = some ⟨g, 0, none⟩ ∧ base ≤ g ∧ Blk w g 44 ((bksV l).flatten ++ rest) ∧ n * 19 + rest.length = c * 19 ∧ n ≤ c ∧ c ≤ maxLen := by
  rcases h.2 with ⟨_, h0⟩ | ⟨g, cap, cur, hv, hbg, hg, hnc, hcm, hs, hcr⟩
  · omega
  injection hv with hA _ hcc
  subst hA hcc
  refine ⟨g, cur.toList.drop (n * 19), rfl, hbg, ?_, ?_, hnc, hcm⟩
  · unfold Blk
    rw [← hcr, List.take_append_drop, Array.toArray_toList]
    exact hg
  · rw [List.length_drop, Array.length_toList, hs]
    have := Nat.mul_le_mul_right 19 hnc
    omega
theorem bkBlk_own {w : World} {base n c g : Nat} {l : List BucketM} {rest : List Value} (h : Blk w g 44 ((bksV l).flatten ++ rest)) (hl : l.length = n) (hok : ∀ s ∈ l, s.ok) (hb : base ≤ g) (hr : n * 19 + rest.length = c * 19) (hnc : n ≤ c) (hc : c ≤ maxLen) : w.ownsRow base 44 19 (.slice (some ⟨g, 0, none⟩) n c) n (bksV l).flatten := by
  have hfl : (bksV l).flatten.length = n * 19 := by rw [flat_length (bksV_size hok), bksV_len, hl]
  exact own_of_blk h hb hnc hc (by rw [List.length_append, hfl, hr]) (List.take_left' hfl)
theorem bk_row_at {w : World} {g : Nat} {l : List BucketM} {rest : List Value} (h : Blk w g 44 ((bksV l).flatten ++ rest)) (hok : ∀ s ∈ l, s.ok) {p : Nat} {b : BucketM} (hb : l[p]? = some b) : At w g (p * 19) b.cells :=
  blk_at h (bksV_size hok) (by rw [bksV, List.getElem?_map, hb]; rfl)
theorem bk_row_set {l : List BucketM} {rest : List Value} (hok : ∀ s ∈ l, s.ok) {p : Nat} (hp : p < l.length) {b : BucketM} (hb : b.ok) : setL ((bksV l).flatten ++ rest) (p * 19) b.cells = (bksV (l.set p b)).flatten ++ rest := by
  rw [flat_set (bksV_size hok) (BucketM.cells_length hb) (by rw [bksV_len]; exact hp), bksV, bksV, List.map_set]
theorem bk_row_tok {l : List BucketM} {rest : List Value} (hok : ∀ s ∈ l, s.ok) {p : Nat} {b : BucketM} (hb : l[p]? = some b) (v : Int) : ((bksV l).flatten ++ rest).set (p * 19 + 17) (.int .i64 v) = (bksV (l.set p { b with tok := v })).flatten ++ rest := by
  rw [flat_cell (bksV_size hok) p b.cells (by rw [bksV, List.getElem?_map, hb]; rfl) 17 _ (by omega), bk_tok_set (hok b (List.mem_of_getElem? hb)), bksV, bksV, List.map_set]
theorem bks_set_ok {l : List BucketM} (hok : ∀ s ∈ l, s.ok) {p : Nat} {b : BucketM} (hb : b.ok) : ∀ s ∈ l.set p b, s.ok := fun s hs => by
  rcases List.mem_or_eq_of_mem_set hs with h | rfl
  · exact hok s h
  · exact hb
theorem modify_set {l : List BucketM} {p : Nat} {b : BucketM} (h : l[p]? = some b) (f : BucketM → BucketM) : l.modify p f = l.set p (f b) := by
  obtain ⟨hp, rfl⟩ := List.getElem?_eq_some_iff.1 h
  apply List.ext_getElem?
  intro i
  rw [List.getElem?_modify, List.getElem?_set]
  by_cases e : p = i
  · subst e
    simp [hp]
  · simp [e]
theorem takeB_low {G : List BucketM} {p : Nat} {b : BucketM} (h : G[p]? = some b) (hl : b.tok < 1000) : takeB (G, p) = (G, false) := by
  unfold takeB
  rw [h]
  exact if_pos hl
theorem takeB_high {G : List BucketM} {p : Nat} {b : BucketM} (h : G[p]? = some b) (hl : ¬ b.tok < 1000) : takeB (G, p) = (G.set p { b with tok := b.tok - 1000 }, true) := by
  unfold takeB
  rw [h]
  exact if_neg hl
end Go.Proofs.Ytpahfckihcbajaa
namespace Go.Proofs.Ytpahfckihcbajaa
open Go.RowKit

/-- the number of items ahead of the first one that is wanted -/
def firstM (p : List Value → Bool) (os : List (List Value)) : Nat := (os.findIdx? p).getD os.length
theorem firstM_none {p : List Value → Bool} {os : List (List Value)} (h : ∀ o ∈ os, p o = false) : firstM p os = os.length := by
  have e : os.findIdx? p = none := List.findIdx?_eq_none_iff.2 h
  unfold firstM
  rw [e]
  rfl
theorem firstM_some {p : List Value → Bool} {os : List (List Value)} {j : Nat} {o : List Value} (ho : os[j]? = some o) (hp : p o = true) (hn : ∀ (q : Nat) x, q < j → os[q]? = some x → p x = false) : firstM p os = j := by
  obtain ⟨hi, rfl⟩ := List.getElem?_eq_some_iff.1 ho
  have e : os.findIdx? p = some j := by
    rw [List.findIdx?_eq_some_iff_getElem]
    exact ⟨hi, hp, fun q hq => by simpa using hn q _ hq (List.getElem?_eq_getElem (by omega))⟩
  unfold firstM
  rw [e]
  rfl
set_option maxRecDepth 100000 in
set_option maxHeartbeats 16000000 in
theorem bkFirst_any (A : Option Addr) (n c : Nat) (os : List (List Value)) (hn : n ≤ 1000000) (h1 : ∀ o ∈ os, ∀ v ∈ o, v.oneCell' = true) (F : Nat) (lb : Array Value) (hE : ∀ (args : Array Value) (W : World), (callFunc F args).run Try.prog W = .ok (.enter F args) W) (p : List Value → Bool) (B : Nat) (w : World) (hB : B ≤ w.heap.size) (hr : RdRow w w.heap.size A 19 n os) (hf : PredB Try.prog F lb p B w os) :
    Calls Try.prog 27 #[.slice A n c, .func (.func F) #[] lb] w fun e w' => e = .returned (.int .i64 (firstM p os : Int)) ∧ Below w.heap.size w w' := by
  have HR := Lib.hid hr
  have HF := Lib.hid hf
  have HB := Lib.hid hB
  have H1 := Lib.hid h1
  clear hr hf hB h1
  go_enter Try.func27, Try.ntmps27
  go_wp2_with fail
  go_loopw [9] (fun i wr => ∃ j : Nat, j ≤ n ∧ i = .int .i64 (j : Int) ∧ Below w.heap.size w wr ∧ ∀ (q : Nat) x, q < j → os[q]? = some x → p x = false) (fun i _ => n - (intOf i).toNat)
  case atStart => exact ⟨0, Nat.zero_le _, rfl, Below.refl _ _, fun q _ h => absurd h (Nat.not_lt_zero _)⟩
  case round =>
    obtain ⟨j, hj, rfl, hW, hno⟩ := hrel
    have HW := Lib.hid hW
    have HNO := Lib.hid hno
    clear hW hno
    by_cases hjn : j < n
    · have d1 : decide ((j : Int) < (n : Int)) = true := by simp; omega
      obtain ⟨b, off, rfl⟩ := HR.out.addr (by omega)
      obtain ⟨o, ho⟩ : ∃ o, os[j]? = some o := ⟨os[j]'(by rw [HR.out.1]; exact hjn), List.getElem?_eq_getElem _⟩
      have hat := HR.out.at j o ho
      have HLA := Lib.hid (show At wr b (off + j * 19) o from fun q v hv => (World.cell?_of_block (HW.out.block b hat.1)).trans (hat.2 q v hv))
      have HOL := Lib.hid (HR.out.2.1 o (List.mem_of_getElem? ho))
      have HU := Lib.hid (bk_size o HOL.out)
      have H1O := Lib.hid (H1.out o (List.mem_of_getElem? ho))
      have hcall := HF.out o (List.mem_of_getElem? ho)
      obtain ⟨oc, hoc⟩ : ∃ z, o.toArray = z := ⟨_, rfl⟩
      rw [hoc] at hcall
      obtain ⟨y, hy⟩ : ∃ y, p o = y := ⟨_, rfl⟩
      rw [hy] at hcall
      have HOC := Lib.hid hoc
      have HC := Lib.hid hcall
      have HJO := Lib.hid (And.intro ho hy)
      clear hat ho hcall hoc hy
      have HZ := Lib.hid (Blk.new wr 44 bucketZ)
      go_upto_region 4 with (first | (refine wpList_load_obj rfl 44 (.tmp 12) rfl b _ rfl o HLA.out _ Try.underlying44 rfl HU.out ?_; rw [HOC.out]) | (refine wpList_store_obj rfl 44 (.tmp 6) (.tmp 13) rfl wr.heap.size 0 o rfl (by show Value.agg oc = _; rw [HOC.out]) 44 bucketZ HZ.out HU.out (by rw [HOL.out, bucketZ_length]; omega) H1O.out ?_; intro w4 hb4 hg4))
      rw [setL_all bucketZ o (by rw [HOL.out, bucketZ_length])] at hb4
      have HW4 := Lib.hid (HW.out.trans ((below_fresh hg4).mono HW.out.size))
      have HP := Lib.hid hb4
      clear hb4 hg4 HW HZ d1 HLA
      generalize wr.heap.size = P1 at HP ⊢
      go_wp2_with (refine wpList_load_obj rfl 44 (.tmp 6) rfl P1 0 rfl o HP.out.all _ Try.underlying44 rfl HU.out ?_; rw [HOC.out])
      refine (HC.out w4 (HW4.out.mono HB.out)).mono ?_
      rintro e w2 ⟨rfl, hb⟩
      have HW2 := Lib.hid (HW4.out.trans (hb.mono HW4.out.size))
      clear hb HW4 HC HP
      cases y with
      | true =>
        go_wp2
        go_ret
        exact ⟨by rw [firstM_some HJO.out.1 HJO.out.2 HNO.out]; rfl, HW2.out⟩
      | false =>
        go_wp2_with fail
        go_roundw
        case rel => exact ⟨j + 1, by omega, by go_num, HW2.out, fun q x hq hx => by
          rcases Nat.lt_or_ge q j with h | h
          · exact HNO.out q x h hx
          · obtain rfl : q = j := by omega
            have e := HJO.out.1.symm.trans hx
            injection e with e
            rw [← e]
            exact HJO.out.2⟩
        case measure => simp [intOf]; omega
    · obtain rfl : j = n := by omega
      have d1 : decide ((j : Int) < (j : Int)) = false := by simp
      have HF2 := Lib.hid HW.out
      have HX := Lib.hid ((firstM_none (all_false HR.out.1 HNO.out)).trans HR.out.1)
      clear HW HNO
      go_wp2
      go_ret
      exact ⟨by rw [HX.out]; rfl, HF2.out⟩
end Go.Proofs.Ytpahfckihcbajaa
namespace Go.Proofs.Ytpahfckihcbajaa
open Go.RowKit

end Go.Proofs.Ytpahfckihcbajaa
namespace Go.Proofs.Ytpahfckihcbajaa
open Go.RowKit

theorem loadBytes_rd {P : Program} : ∀ (l : List UInt8) (w : World) (b off : Nat) (acc : ByteArray), (∀ j (h : j < l.length), w.cell? ⟨b, off + j, none⟩ = some (.int .u8 (l[j].toNat : Int))) →
    (Extern.Bytes.loadBytes ⟨b, off, none⟩ l.length acc).run P w = .ok ⟨acc.data ++ l.toArray⟩ w
  | [], w, b, off, acc, _ => by simp [Extern.Bytes.loadBytes]
  | x :: l, w, b, off, acc, h => by
    have h0 := h 0 (by simp)
    rw [Nat.add_zero] at h0
    have ih := loadBytes_rd (P := P) l w b (off + 1) (acc.push x) (fun j hj => by
      have := h (j + 1) (by simp; omega)
      rw [show off + 1 + j = off + (j + 1) by omega]
      simpa using this)
    have e1 : (Addr.add ⟨b, off, none⟩ 1) = ⟨b, off + 1, none⟩ := by simp [Go.WideShapes.add_plain]
    simp only [List.length_cons, Extern.Bytes.loadBytes, Sem.run_bind, run_load, h0, Result.andThen]
    simp only [List.getElem_cons_zero, Int.toNat_natCast, Nat.toUInt8_eq, UInt8.ofNat_toNat, e1]
    rw [ih]
    congr 1
    simp [ByteArray.push]
theorem bytesOf_rd {P : Program} {w : World} {B n c : Nat} {A : Option Addr} {l : List UInt8} (h : Rd w B A n l) : (Extern.Bytes.bytesOf (.slice A n c)).run P w = .ok ⟨l.toArray⟩ w := by
  rcases Nat.eq_zero_or_pos n with h0 | h0
  · have : l = [] := List.eq_nil_of_length_eq_zero (by rw [h.1, h0])
    subst this
    subst h0
    cases A with
    | none => simp [Extern.Bytes.bytesOf]; rfl
    | some a => simp [Extern.Bytes.bytesOf, Extern.Bytes.loadBytes]; rfl
  · obtain ⟨b, off, rfl, _, hc⟩ := h.at_ h0
    have := loadBytes_rd (P := P) l w b off .empty hc
    rw [h.1] at this
    simp [Extern.Bytes.bytesOf, this]
set_option maxRecDepth 100000 in
theorem compare_any (n m c d B B' : Nat) (A A' : Option Addr) (a b : List UInt8) (w : World) (ha : Rd w B A n a) (hb : Rd w B' A' m b) :
    Calls Try.prog 40 #[.slice A n c, .slice A' m d] w fun e w' => e = .returned (.int .i64 (Lib.compareBytes a b)) ∧ w = w' := by
  have hx : (callFunc 43 #[.slice A n c, .slice A' m d]).run Try.prog w = .ok (.value (.int .i64 (Lib.compareBytes a b))) w := by
    rw [run_callFunc_extern Try.func43 (by kernel_rfl) (by kernel_rfl) (by kernel_rfl) (e := Extern.BytealgCompare.compare) (by kernel_rfl)]
    have e1 : (Extern.BytealgCompare.compare #[.slice A n c, .slice A' m d]).run Try.prog w = .ok (.int .i64 (Lib.compareBytes a b)) w := by
      change Sem.run Try.prog (do pure (goInt (Extern.BytealgCompare.cmp (← Extern.Bytes.bytesOf (.slice A n c)) (← Extern.Bytes.bytesOf (.slice A' m d))))) w = _
      simp only [Sem.run_bind, Sem.run_pure, bytesOf_rd ha, bytesOf_rd hb, Result.andThen, Lib.cmp_eq]
      rfl
    rw [e1]
    rfl
  go_enter Try.func40, Try.ntmps40
  go_wp2
  go_ret
  exact ⟨rfl, rfl⟩
end Go.Proofs.Ytpahfckihcbajaa
namespace Go.Proofs.Ytpahfckihcbajaa
open Go.RowKit

theorem compare_less : ∀ (a b : List UInt8), decide (Lib.compareBytes a b < 0) = Op.bytesLess a b
  | [], [] => rfl
  | [], _ :: _ => rfl
  | _ :: _, [] => rfl
  | x :: a, y :: b => by
    have ih := compare_less a b
    unfold Lib.compareBytes Op.bytesLess
    by_cases h1 : x < y
    · rw [if_pos h1]; simp [h1]
    · by_cases h2 : y < x
      · have hne : (x == y) = false := by
          rw [beq_eq_false_iff_ne]
          intro e
          subst e
          exact h1 h2
        rw [if_neg h1, if_pos h2, hne]
        simp [h1]
      · have he : x = y := by
          apply UInt8.toNat.inj
          rw [UInt8.lt_iff_toNat_lt] at h1 h2
          omega
        subst he
        rw [if_neg h1, if_neg h2, ih]
        simp [h1]
end Go.Proofs.Ytpahfckihcbajaa
namespace Go.Proofs.Ytpahfckihcbajaa
open Go.RowKit

theorem AddrM.ip_cell (a : AddrM) (h : a.ok) (j : Nat) (hj : j < 16) : a.cells[1 + j]? = some (.int .u8 ((a.ip.getD j 0).toNat : Int)) := by
  have hl : j < a.ip.length := by rw [h]; exact hj
  rw [AddrM.cells, Nat.add_comm, List.getElem?_cons_succ, List.getElem?_map, List.getElem?_eq_getElem hl, List.getD_eq_getElem?_getD, List.getElem?_eq_getElem hl]
  rfl
theorem AddrM.six_cell (a : AddrM) : a.cells[0]? = some (.bool a.six) := rfl
end Go.Proofs.Ytpahfckihcbajaa
namespace Go.Proofs.Ytpahfckihcbajaa
open Go.RowKit

/-- the address behind i elements, as the model keeps it -/
def addrOf (A : Option Addr) (i c : Nat) : Option Addr := if c = i then A else A.map (·.add (i * 1))
theorem Rd.behind {W : World} {B n : Nat} {A : Option Addr} {l : List UInt8} (h : Rd W B A n l) (i c : Nat) (hi : i ≤ n) (hc : n ≤ c) : Rd W B (addrOf A i c) (n - i) (l.drop i) := by
  unfold addrOf
  by_cases e : c = i
  · have e0 : n - i = 0 := by omega
    rw [if_pos e, e0, List.drop_of_length_le (by have := h.1; omega)]
    exact Rd.nil _ _ _
  · rw [if_neg e]
    rcases Nat.eq_zero_or_pos (n - i) with h0 | h0
    · rw [h0, List.drop_of_length_le (by have := h.1; omega)]
      exact Rd.nil _ _ _
    · obtain ⟨b, off, rfl, _, _⟩ := h.2 (by omega)
      rw [Option.map_some, Go.WideShapes.add_plain, Nat.mul_one]
      exact h.drop i b off rfl hi
end Go.Proofs.Ytpahfckihcbajaa
namespace Go.Proofs.Ytpahfckihcbajaa
open Go.RowKit

theorem AddrM.rd {w : World} {g : Nat} {t : TypeId} {a : AddrM} (h : Blk w g t a.cells) (ho : a.ok) : Rd w (g + 1) (some ⟨g, 1, none⟩) 16 a.ip :=
  ⟨ho, fun _ => ⟨g, 1, rfl, Nat.lt_succ_self _, fun j hj => by
    rw [h.cell (1 + j), AddrM.ip_cell a ho j (by rw [ho] at hj; exact hj), List.getD_eq_getElem?_getD, List.getElem?_eq_getElem hj]
    rfl⟩⟩
end Go.Proofs.Ytpahfckihcbajaa
namespace Go.Proofs.Ytpahfckihcbajaa
open Go.RowKit

set_option maxRecDepth 100000 in
set_option maxHeartbeats 4000000 in
theorem less_any (a b : AddrM) (ha : a.ok) (hb : b.ok) (w : World) :
    Calls Try.prog 32 #[.agg a.cells.toArray, .agg b.cells.toArray] w fun e w' => e = .returned (.bool (lessM a b)) ∧ Below w.heap.size w w' := by
  obtain ⟨ca, hca⟩ : ∃ x, a.cells.toArray = x := ⟨_, rfl⟩
  obtain ⟨cb, hcb⟩ : ∃ x, b.cells.toArray = x := ⟨_, rfl⟩
  rw [hca, hcb]
  have HM := Lib.hid (show Mem w [blkE (w.heap.size + 1) 35 b.cells, blkE w.heap.size 35 a.cells] ((w.alloc (.cells ca 35)).alloc (.cells cb 35)) from ((Mem.nil w).alloc rfl 35 ca a.cells hca.symm).alloc (by simp) 35 cb b.cells hcb.symm)
  have HOA := Lib.hid ha
  have HOB := Lib.hid hb
  have hcl := compare_less a.ip b.ip
  clear hca hcb ha hb
  go_enter Try.func32, Try.ntmps32
  go_upto_region 1 with fail
  generalize ((w.alloc (.cells ca 35)).alloc (.cells cb 35)) = w1 at HM ⊢
  have f1 := ((HM.out.blk 1 rfl).cell 0).trans (AddrM.six_cell a)
  have f2 := ((HM.out.blk 0 rfl).cell 0).trans (AddrM.six_cell b)
  by_cases h6 : a.six = b.six
  · have HE := Lib.hid (show decide (Lib.compareBytes a.ip b.ip < 0) = lessM a b by rw [lessM, if_pos h6, hcl])
    rw [h6] at f1
    have hne : (b.six != b.six) = false := by simp
    clear h6 hcl
    generalize b.six = sx at f1 f2 hne
    go_upto_region 3 with fail
    clear f1 f2 hne
    generalize w.heap.size = GA at HM ⊢
    refine wp_region_held_drew (S := fun W' => Mem w [blkE (GA + 1) 35 b.cells, blkE GA 35 a.cells] W') (by kernel_rfl) ((HM.out).drew) (fun hHeld => ?_)
    replace HM := Lib.hid HM.out.drew
    generalize w1.drew = wd1 at HM hHeld ⊢
    refine take_first (v := ?_) 0 rfl (by kernel_rfl) (by kernel_rfl) (by kernel_rfl) (fun _ _ _ h => h) (Or.inl ⟨by rfl, ?_⟩) (by assumption) ?_
    rotate_left
    · (intro w hSw; (try dsimp only at hSw); go_simp; try with_reducible rfl)
    (try simp only [Act.put, List.setIfInBounds_toArray, List.set_cons_zero, List.set_cons_succ])
    refine take_first (v := ?_) 1 rfl (by kernel_rfl) (by kernel_rfl) (by kernel_rfl) (fun _ _ _ h => h) (Or.inl ⟨by rfl, ?_⟩) (by assumption) ?_
    rotate_left
    · (intro w hSw; (try dsimp only at hSw); go_simp; try with_reducible rfl)
    (try simp only [Act.put, List.setIfInBounds_toArray, List.set_cons_zero, List.set_cons_succ])
    refine take_first (v := ?_) 2 rfl (by kernel_rfl) (by kernel_rfl) (by kernel_rfl) (fun _ _ _ h => h) (Or.inl ⟨by rfl, ?_⟩) (by assumption) ?_
    rotate_left
    · (intro w hSw; (try dsimp only at hSw); go_simp; try with_reducible rfl)
    (try simp only [Act.put, List.setIfInBounds_toArray, List.set_cons_zero, List.set_cons_succ])
    refine take_first (v := ?_) 3 rfl (by kernel_rfl) (by kernel_rfl) (by kernel_rfl) (fun _ _ _ h => h) (Or.inl ⟨by rfl, ?_⟩) (by assumption) ?_
    rotate_left
    · (intro w hSw; (try dsimp only at hSw); go_simp; try with_reducible rfl)
    (try simp only [Act.put, List.setIfInBounds_toArray, List.set_cons_zero, List.set_cons_succ])
    refine step_one 4 rfl (by kernel_rfl) (fun K hK => ?_)
    clear hHeld
    go_simp
    refine (compare_any 16 16 16 16 _ _ _ _ a.ip b.ip _ (AddrM.rd (HM.out.blk 1 rfl) HOA.out) (AddrM.rd (HM.out.blk 0 rfl) HOB.out)).mono ?_
    rintro e wy ⟨rfl, rfl⟩
    go_wp2_with fail
    refine hK.out _ _ (HM.out) (fun hHeld => ?_)
    clear hK K
    (try simp only [Act.put, List.setIfInBounds_toArray, List.set_cons_zero, List.set_cons_succ])
    refine take_first (v := ?_) 5 rfl (by kernel_rfl) (by kernel_rfl) (by kernel_rfl) (fun _ _ _ h => h) (Or.inl ⟨by rfl, ?_⟩) (by assumption) ?_
    rotate_left
    · (intro w hSw; (try dsimp only at hSw); go_simp; try with_reducible rfl)
    (try simp only [Act.put, List.setIfInBounds_toArray, List.set_cons_zero, List.set_cons_succ])
    refine take_first (v := ?_) 6 rfl (by kernel_rfl) (by kernel_rfl) (by kernel_rfl) (fun _ _ _ h => h) (Or.inl ⟨by rfl, ?_⟩) (by assumption) ?_
    rotate_left
    · (intro w hSw; (try dsimp only at hSw); go_simp; try with_reducible rfl)
    (try simp only [Act.put, List.setIfInBounds_toArray, List.set_cons_zero, List.set_cons_succ])
    refine wpAnyH_done (by kernel_rfl) ?_ _
    have HB := Lib.hid HM.out.bel
    clear HM hHeld
    go_wp2
    go_ret
    exact ⟨by have h := HE.out; simp at h ⊢; exact h, HB.out⟩
  · have HR := Lib.hid (show lessM a b = b.six by rw [lessM, if_neg h6]; revert h6; cases a.six <;> cases b.six <;> simp)
    clear hcl
    generalize a.six = s1 at f1 h6
    generalize b.six = s2 at f2 h6 HR
    have hc : (s1 = true ∧ s2 = false) ∨ (s1 = false ∧ s2 = true) := by revert h6; cases s1 <;> cases s2 <;> simp
    clear h6
    rcases hc with ⟨rfl, rfl⟩ | ⟨rfl, rfl⟩
    · go_wp2
      go_ret
      exact ⟨by first | rfl | (rw [HR.out]; rfl), HM.out.bel⟩
    · go_wp2
      go_ret
      exact ⟨by first | rfl | (rw [HR.out]; rfl), HM.out.bel⟩
end Go.Proofs.Ytpahfckihcbajaa
