/-
  The contracts of the choices that the statements are made of: Left, Next. Pieces of a slice of bytes whose address is not known: what x[i:j] and x[i:] give, and what they read as. A row that was made is a block; bytes that were read stay. The choices that the statements are made of: New. The choices that the statements are made of, at a world. Rows of objects, where one block is written. Building an array of arrays, stated over a list of its parts. The contract of the laws' made. Calls of the functions of timers, with named results. The example of the chapter on timers: begun of the laws. The walk of WheelDrains. The contracts of cmp.Compare. The contract of cmp.Or for numbers. The mathematics of time stamps over lists of bytes; no function of the program is named here. The contract of bytes.Compare for two rows of bytes. The sign of a comparison of rows of bytes. What is asked of Less holds of the landed one. A timer's purpose and what is permitted. The contract of slices.IndexFunc at a slice of structs. No statement is proved here.
-/
import Derived.Deep.DeepCutAuto
import Derived.Outline
import Derived.RegionTactic
import Derived.Lib.BytesEntry
import Derived.Lib.Bytealg
import Derived.Laws.Externs
import Derived.Test.YtffeecaidkeepaaWheelDrainsB2
namespace Go.Proofs.Ytffeecaidkeepaa
open Go.RowKit

/-- the list of choices that lies at A, p of them taken -/
def codesC (A : Option Addr) (n c p : Nat) : List Value := [.slice A n c, .int .i64 (p : Int)]
def nextV (l : List UInt8) (p m : Nat) : Nat := if p < l.length ∧ 1 ≤ m then (l.getD p 0).toNat % m else 0
def nextP (l : List UInt8) (p m : Nat) : Nat := if p < l.length ∧ 1 ≤ m then p + 1 else p
theorem nextP_le (l : List UInt8) (p m : Nat) (h : p ≤ l.length) : nextP l p m ≤ l.length := by unfold nextP; split <;> omega
theorem nextV_lt (l : List UInt8) (p m : Nat) (h : 1 ≤ m) : nextV l p m < m := by unfold nextV; split; exact Nat.mod_lt _ h; omega
set_option maxRecDepth 100000 in
theorem caseLeft_any (g : Nat) (A : Option Addr) (n c : Nat) (p : Nat) (w : World) (hg : Blk w g 63 (codesC A n c p)) :
    Calls Try.prog 36 #[.pointer (some ⟨g, 0, none⟩)] w fun e w' => e = .returned (.bool (decide (p < n))) ∧ Below w.heap.size w w' := by
  have HG := Lib.hid hg
  have hd : decide ((p : Int) < (n : Int)) = decide (p < n) := by simp
  obtain ⟨q, hq⟩ : ∃ q, decide (p < n) = q := ⟨_, rfl⟩
  rw [hq] at hd
  have HQ := Lib.hid hq
  clear hg hq
  go_enter Try.func36, Try.ntmps36
  have f0 := HG.out.cell 0
  have f1 := HG.out.cell 1
  rw [show (codesC A n c p)[0]? = some (.slice A n c) from rfl] at f0
  rw [show (codesC A n c p)[1]? = some (.int .i64 (p : Int)) from rfl] at f1
  go_upto_region 1 with fail
  go_region
  go_wp2
  go_ret
  exact ⟨by rw [HQ.out]; rfl, (Below.refl _ _).drew⟩
set_option maxRecDepth 100000 in
set_option maxHeartbeats 2000000 in
theorem caseNext_any (g : Nat) (A : Option Addr) (n c : Nat) (l : List UInt8) (p : Nat) (hn : n ≤ 100000) (hp : p ≤ n) (m : Nat) (hm : m ≤ 1000000) (B : Nat) (hB : B ≤ g) (w : World) (hg : Blk w g 63 (codesC A n c p)) (hr : Rd w B A n l) :
    Calls Try.prog 25 #[.pointer (some ⟨g, 0, none⟩), .int .i64 (m : Int)] w fun e w' => e = .returned (.int .i64 (nextV l p m : Int)) ∧ Blk w' g 63 (codesC A n c (nextP l p m)) ∧ w.grownBy w' (some g) := by
  have hl := hr.1
  have LC := caseLeft_any g A n c p w hg
  have HG := Lib.hid hg
  have HR := Lib.hid hr
  have HLC := Lib.hid LC
  clear hg hr LC
  by_cases hpn : p < n
  · by_cases hm1 : 1 ≤ m
    · have HV := Lib.hid (show nextV l p m = (l.getD p 0).toNat % m ∧ nextP l p m = p + 1 from ⟨if_pos ⟨by omega, hm1⟩, if_pos ⟨by omega, hm1⟩⟩)
      obtain ⟨b, off, rfl, hb0, _⟩ := HR.out.at_ (by omega)
      go_enter Try.func25, Try.ntmps25
      go_upto_region 1 with fail
      go_wp2_with fail
      refine HLC.out.mono ?_
      rintro e w1 ⟨rfl, hb⟩
      rw [decide_eq_true hpn]
      have HG1 := Lib.hid (HG.out.below hb HG.out.lt)
      have HR1 := Lib.hid ((HR.out.mono (Nat.le_trans hB (Nat.le_of_lt HG.out.lt))).below hb)
      have HW := Lib.hid (grownB (grown_refl w (some g)) hb)
      clear hb HLC
      have dm : decide ((m : Int) < 1) = false := by simp; omega
      have f0 := HG1.out.cell 0
      have f1 := HG1.out.cell 1
      rw [show (codesC (some ⟨b, off, none⟩) n c p)[0]? = some (.slice (some ⟨b, off, none⟩) n c) from rfl] at f0
      rw [show (codesC (some ⟨b, off, none⟩) n c p)[1]? = some (.int .i64 (p : Int)) from rfl] at f1
      have z1 := HG1.out.frozen 1
      have hw1 : IntKind.i64.wrap ((p : Int) + 1) = ((p + 1 : Nat) : Int) := by rw [IntWalk.i64_in _ (by omega)]; omega
      obtain ⟨p1, hp1⟩ : ∃ q, p + 1 = q := ⟨_, rfl⟩
      rw [hp1] at hw1
      have hs := HG1.out.set_ 1 (.int .i64 (p1 : Int))
      have HS := Lib.hid (show Blk (w1.setCell ⟨g, 1, none⟩ (.int .i64 (p1 : Int))) g 63 (codesC (some ⟨b, off, none⟩) n c p1) from hs)
      have HW2 := Lib.hid (show w.grownBy (w1.setCell ⟨g, 1, none⟩ (.int .i64 (p1 : Int))) (some g) from grown_set HW.out 1 _)
      have hfx : (w1.setCell ⟨g, 1, none⟩ (.int .i64 (p1 : Int))).cell? ⟨b, off + p, none⟩ = some (.int .u8 ((l.getD p 0).toNat : Int)) := by
        rw [World.cell?_of_block (w := w1) (Below.heap_setCell _ _ _ _ (by dsimp only; omega))]
        exact HR1.out.byt p hpn
      have HFX := Lib.hid hfx
      clear hs hfx
      go_upto_region 4 with fail
      clear f0 f1 z1 dm
      (try simp only [hw1])
      generalize w1.setCell ⟨g, 1, none⟩ (.int .i64 (p1 : Int)) = w2 at HS HW2 HFX ⊢
      clear hw1
      have f0 := HS.out.cell 0
      have f1 := HS.out.cell 1
      rw [show (codesC (some ⟨b, off, none⟩) n c p1)[0]? = some (.slice (some ⟨b, off, none⟩) n c) from rfl] at f0
      rw [show (codesC (some ⟨b, off, none⟩) n c p1)[1]? = some (.int .i64 (p1 : Int)) from rfl] at f1
      have fx := HFX.out
      generalize l.getD p 0 = x at fx HV
      have hw2 : IntKind.i64.wrap ((p1 : Int) - 1) = (p : Int) := by rw [IntWalk.i64_in _ (by omega)]; omega
      have hw3 : (p1 : Int) - 1 = (p : Int) := by omega
      have hw4 : IntKind.i64.wrap (p : Int) = (p : Int) := IntWalk.i64_in _ (by omega)
      have hx256 := x.toNat_lt
      have hw5 : IntKind.i64.wrap (x.toNat : Int) = (x.toNat : Int) := IntWalk.i64_in _ (by omega)
      have bp : (p : Int) < (n : Int) := by omega
      have hmz : ((m : Int) == 0) = false := by rw [beq_eq_false_iff_ne]; omega
      have hmz' : ¬ (m : Int) = 0 := by omega
      obtain ⟨r, hr⟩ : ∃ r, x.toNat % m = r := ⟨_, rfl⟩
      have hmod : (x.toNat : Int).tmod (m : Int) = (r : Int) := by rw [← hr, Int.tmod_eq_emod_of_nonneg (by omega), Int.natCast_emod]
      have hmod2 : (x.toNat : Int) % (m : Int) = (r : Int) := by rw [← hr, Int.natCast_emod]
      rw [hr, hp1] at HV
      have hwr : IntKind.i64.wrap (r : Int) = (r : Int) := IntWalk.i64_in _ (by rw [← hr]; have := Nat.mod_le x.toNat m; omega)
      clear hr
      go_region
      go_wp2
      go_ret
      exact ⟨by rw [HV.out.1]; rfl, by rw [HV.out.2]; exact HS.out.drew, grownD HW2.out⟩
    · have HV := Lib.hid (show nextV l p m = 0 ∧ nextP l p m = p from ⟨if_neg (by omega), if_neg (by omega)⟩)
      go_enter Try.func25, Try.ntmps25
      go_upto_region 1 with fail
      go_wp2_with fail
      refine HLC.out.mono ?_
      rintro e w1 ⟨rfl, hb⟩
      rw [decide_eq_true hpn]
      have HG1 := Lib.hid (HG.out.below hb HG.out.lt)
      have HW := Lib.hid (grownB (grown_refl w (some g)) hb)
      clear hb HLC
      have dm : decide ((m : Int) < 1) = true := by simp; omega
      go_wp2
      go_ret
      exact ⟨by rw [HV.out.1]; rfl, by rw [HV.out.2]; exact HG1.out, HW.out⟩
  · have HV := Lib.hid (show nextV l p m = 0 ∧ nextP l p m = p from ⟨if_neg (by omega), if_neg (by omega)⟩)
    go_enter Try.func25, Try.ntmps25
    go_upto_region 1 with fail
    go_wp2_with fail
    refine HLC.out.mono ?_
    rintro e w1 ⟨rfl, hb⟩
    rw [decide_eq_false hpn]
    have HG1 := Lib.hid (HG.out.below hb HG.out.lt)
    have HW := Lib.hid (grownB (grown_refl w (some g)) hb)
    clear hb HLC
    go_wp2
    go_ret
    exact ⟨by rw [HV.out.1]; rfl, by rw [HV.out.2]; exact HG1.out, HW.out⟩
end Go.Proofs.Ytffeecaidkeepaa
namespace Go.Proofs.Ytffeecaidkeepaa
open Go.RowKit

/-- the address behind i elements, as the model keeps it -/
def addrOf (A : Option Addr) (i c : Nat) : Option Addr := if c = i then A else A.map (·.add (i * 1))
theorem Rd.behind {W : World} {B n : Nat} {A : Option Addr} {l : List UInt8} (h : Rd W B A n l) (i c : Nat) (hi : i ≤ n) (hc : n ≤ c) : Rd W B (addrOf A i c) (n - i) (l.drop i) := by
  unfold addrOf
  by_cases e : c = i
  · have e0 : n - i = 0 := by omega
    rw [if_pos e, e0, List.drop_of_length_le (by have := h.1; omega)]
    exact Rd.nil _ _ _
  · rw [if_neg e]
    rcases Nat.eq_zero_or_pos (n - i) with h0 | h0
    · rw [h0, List.drop_of_length_le (by have := h.1; omega)]
      exact Rd.nil _ _ _
    · obtain ⟨b, off, rfl, _, _⟩ := h.2 (by omega)
      rw [Option.map_some, Go.WideShapes.add_plain, Nat.mul_one]
      exact h.drop i b off rfl hi
end Go.Proofs.Ytffeecaidkeepaa
namespace Go.Proofs.Ytffeecaidkeepaa
open Go.RowKit

theorem Rd.kept {w w' : World} {B g n : Nat} {A : Option Addr} {l : List UInt8} (h : Rd w B A n l) (hB : B ≤ g) (hg : g < w.heap.size) (hb : w.grownBy w' (some g)) : Rd w' B A n l :=
  h.keep fun q hq => World.cell?_of_block (hb.block q.block (by omega) (fun e => by injection e with e; omega))
theorem Rd.below2 {w w' : World} {B n : Nat} {A : Option Addr} {l : List UInt8} (h : Rd w B A n l) (hB : B ≤ w.heap.size) (hb : Below w.heap.size w w') : Rd w' B A n l := h.below (hb.mono hB)
end Go.Proofs.Ytffeecaidkeepaa
namespace Go.Proofs.Ytffeecaidkeepaa
open Go.RowKit

set_option maxRecDepth 100000 in
theorem caseNew_any (A : Option Addr) (n c m k : Nat) (hm : m ≤ 1000000) (hnc : n ≤ c) (hcm : c ≤ maxLen) (hk : min n m = k) (w : World) :
    Calls Try.prog 24 #[.slice A n c, .int .i64 (m : Int)] w fun e w' => e = .returned (.pointer (some ⟨w.heap.size, 0, none⟩)) ∧ Mem w [blkE w.heap.size 63 (codesC A k c 0)] w' := by
  have hc63 : (c : Int) ≤ 9223372036854775807 := by unfold maxLen at hcm; omega
  have HM := Lib.hid ((Mem.nil w).alloc rfl 63 #[.slice A k c, .int .i64 0] (codesC A k c 0) rfl)
  by_cases h : n ≤ m
  · obtain rfl : k = n := by omega
    have h1 : ¬ (m : Int) < (k : Int) := by omega
    have h2 : (k : Int) ≤ (m : Int) := by omega
    have h3 : (k : Int) ≤ (c : Int) := by omega
    have h4 : (if (m : Int) < (k : Int) then (m : Int) else (k : Int)) = (k : Int) := if_neg h1
    clear hk
    go_enter Try.func24, Try.ntmps24
    go_wp2
    go_ret
    exact ⟨rfl, HM.out⟩
  · obtain rfl : k = m := by omega
    have h1 : (k : Int) < (n : Int) := by omega
    have h2 : ¬ (n : Int) ≤ (k : Int) := by omega
    have h3 : (k : Int) ≤ (c : Int) := by omega
    have h4 : (if (k : Int) < (n : Int) then (k : Int) else (n : Int)) = (k : Int) := if_pos h1
    clear hk
    go_enter Try.func24, Try.ntmps24
    go_wp2
    go_ret
    exact ⟨rfl, HM.out⟩
end Go.Proofs.Ytffeecaidkeepaa
namespace Go.Proofs.Ytffeecaidkeepaa
open Go.RowKit

/-- the choices at a world: p of them taken -/
structure CodesAt (W : World) (g : Nat) (A : Option Addr) (n c : Nat) (l : List UInt8) (B : Nat) (p : Nat) : Prop where
  blk : Blk W g 63 (codesC A n c p)
  rd : Rd W B A n l
  le : B ≤ g
  lt : g < W.heap.size
  small : n ≤ 100000
  pos : p ≤ n
section
variable {W W' : World} {g : Nat} {A : Option Addr} {n c : Nat} {l : List UInt8} {B p : Nat}
theorem CodesAt.below (h : CodesAt W g A n c l B p) (hb : Below W.heap.size W W') : CodesAt W' g A n c l B p :=
  ⟨h.blk.below hb h.lt, h.rd.below2 (by have := h.le; have := h.lt; omega) hb, h.le, Nat.lt_of_lt_of_le h.lt hb.size, h.small, h.pos⟩
theorem CodesAt.put (h : CodesAt W g A n c l B p) {b : Nat} (hg : W.grownBy W' (some b)) (hb : g < b) : CodesAt W' g A n c l B p :=
  ⟨h.blk.grown hg (fun e => by injection e with e; omega), h.rd.keep (fun q hq => World.cell?_of_block (hg.block q.block (by have := h.le; have := h.lt; omega) (fun e => by injection e with e; have := h.le; omega))), h.le, Nat.lt_of_lt_of_le h.lt hg.size, h.small, h.pos⟩
theorem CodesAt.next (h : CodesAt W g A n c l B p) {q : Nat} (hq : q ≤ n) (hb : Blk W' g 63 (codesC A n c q)) (hg : W.grownBy W' (some g)) : CodesAt W' g A n c l B q :=
  ⟨hb, h.rd.kept h.le h.lt hg, h.le, Nat.lt_of_lt_of_le h.lt hg.size, h.small, hq⟩
theorem CodesAt.nextLe (h : CodesAt W g A n c l B p) (m : Nat) : nextP l p m ≤ n := by have := nextP_le l p m (by rw [h.rd.1]; exact h.pos); rw [h.rd.1] at this; exact this
theorem CodesAt.callNext (h : CodesAt W g A n c l B p) (m : Nat) (hm : m ≤ 1000000) :
    Calls Try.prog 25 #[.pointer (some ⟨g, 0, none⟩), .int .i64 (m : Int)] W fun e w' => e = .returned (.int .i64 (nextV l p m : Int)) ∧ CodesAt w' g A n c l B (nextP l p m) ∧ W.grownBy w' (some g) :=
  (caseNext_any g A n c l p h.small h.pos m hm B h.le W h.blk h.rd).mono fun _ _ k => ⟨k.1, h.next (h.nextLe m) k.2.1 k.2.2, k.2.2⟩
end
end Go.Proofs.Ytffeecaidkeepaa
namespace Go.Proofs.Ytffeecaidkeepaa
open Go.RowKit

theorem RdRow.kept {W W' : World} {B k n g : Nat} {A : Option Addr} {os : List (List Value)} (h : RdRow W B A k n os) (hB : B ≤ W.heap.size) (hg : W.grownBy W' (some g)) (hne : ∀ ad, A = some ad → g < ad.block) : RdRow W' B A k n os :=
  ⟨h.1, h.2.1, fun hn => by
    obtain ⟨b, off, e, hlt, hc⟩ := h.2.2 hn
    exact ⟨b, off, e, hlt, fun j v hv => (World.cell?_of_block (hg.block b (by omega) (fun e2 => by injection e2 with e2; have := hne _ e; simp only at this; omega))).trans (hc j v hv)⟩⟩
theorem At.kept {W W' : World} {b off g : Nat} {cs : List Value} (h : At W b off cs) (hb : b < W.heap.size) (hg : W.grownBy W' (some g)) (hne : g < b) : At W' b off cs := fun j v hv => (World.cell?_of_block (hg.block b hb (fun e2 => by injection e2 with e2; omega))).trans (h j v hv)
end Go.Proofs.Ytffeecaidkeepaa
namespace Go.Proofs.Ytffeecaidkeepaa
open Go.RowKit

theorem wpList_build_as {P : Program} {ops : Array Oper} {rest : List Oper} {o : Oper} {a : Act} {w : World} {Q : Exit → Act → World → Prop} (hg : o.guard = none) (t : TypeId) (parts : List (Nat × Operand)) (ho : o.op = .build t parts.toArray) (v : Array Value)
    (hb : P.built t (parts.map fun p => (p.1, a.eval p.2)) = some v) (h : wpList P ops Q rest (a.put o.dst (.agg v)) w) : wpList P ops Q (o :: rest) a w :=
  have e : (parts.toArray.map fun (i, x) => (i, a.eval x)).toList = parts.map fun p => (p.1, a.eval p.2) := by simp
  wpList_build hg t parts.toArray ho (by rw [e, hb]; rfl) (by rw [e, hb]; exact h)
end Go.Proofs.Ytffeecaidkeepaa
namespace Go.Proofs.Ytffeecaidkeepaa
open Go.RowKit

theorem TmRd.kept {W W' : World} {n g : Nat} {A : Option Addr} {l : List TimerM} (h : TmRd W W.heap.size A n l) (hg : W.grownBy W' (some g)) (hne : ∀ ad, A = some ad → g < ad.block) : TmRd W' W'.heap.size A n l := ⟨(h.1.kept (Nat.le_refl _) hg hne).mono hg.size, h.2⟩
/-- a call that changes the choices' block keeps what the law holds -/
theorem tm_keep {w W W' : World} {G n : Nat} {A : Option Addr} {l : List TimerM} (h : TmRd W W.heap.size A n l ∧ (∀ ad, A = some ad → G < ad.block) ∧ Below w.heap.size w W) (hG : w.heap.size ≤ G) (hg : W.grownBy W' (some G)) : TmRd W' W'.heap.size A n l ∧ (∀ ad, A = some ad → G < ad.block) ∧ Below w.heap.size w W' :=
  ⟨h.1.kept hg h.2.1, h.2.1, h.2.2.grown hg h.2.2.size (fun b hb => by injection hb with hb; omega)⟩
theorem timer_made (x : Int) (k : List UInt8) (d : Int) (hk : k.length = 32) : Try.prog.built 27 [(0, .int .i64 x), (1, .agg (k.map u8v).toArray), (2, .int .i64 d)] = some (TimerM.mk x k d).cells.toArray := by
  rw [built_of 27 [1, 32, 1] [[.int .i64 0], aeZ 32, [.int .i64 0]] (by kernel_rfl) #[(0, 1), (1, 32), (33, 1)] (fun parts => by kernel_rfl) (fun i h => by
    match i, h with
    | 0, _ => rfl
    | 1, _ => rfl
    | 2, _ => rfl
    | i + 3, h => exact absurd h (by simp)) _ (fun p hp => by
    simp only [List.mem_cons, List.not_mem_nil, or_false] at hp
    rcases hp with rfl | rfl | rfl
    · rfl
    · simp [Value.cells, hk]
    · rfl)]
  simp [TimerM.cells, Value.cells]
set_option maxRecDepth 100000 in
set_option maxHeartbeats 16000000 in
theorem made_any (A : Option Addr) (n c : Nat) (l : List UInt8) (hnc : n ≤ c) (hcm : c ≤ maxLen) (w : World) (hr : Rd w w.heap.size A n l) :
    Calls Try.prog 6 #[.slice A n c] w fun e w' => ∃ (ls : List TimerM) (A' : Option Addr) (c' : Nat), WhGood ls ∧ ls.length ≤ 15 ∧ e = .returned (.slice A' ls.length c') ∧ TmRd w' w'.heap.size A' ls.length ls ∧ (ls.length ≤ c' ∧ c' ≤ maxLen) ∧ Below w.heap.size w w' := by
  obtain ⟨k0, hk⟩ : ∃ k, min n 80 = k := ⟨_, rfl⟩
  have HR := Lib.hid (hr.take (show k0 ≤ n by omega))
  have HW1 := Lib.hid (caseNew_any A n c 80 k0 (by omega) hnc hcm hk w)
  have hk60 : k0 ≤ 80 := by omega
  generalize l.take k0 = lk at HR
  clear hr hk hnc hcm
  go_enter Try.func6, Try.ntmps6
  go_wp2_with fail
  refine HW1.out.mono ?_
  rintro e w1 ⟨rfl, hm⟩
  have hc : CodesAt w1 w.heap.size A k0 c lk w.heap.size 0 := ⟨hm.blk 0 rfl, HR.out.below hm.bel, Nat.le_refl _, (hm.blk 0 rfl).lt, by omega, Nat.zero_le _⟩
  have HB1 := Lib.hid hm.bel
  obtain ⟨G, hG⟩ : ∃ G, w.heap.size = G := ⟨_, rfl⟩
  have hn20 := hc.callNext 16 (by omega)
  rw [show ((16 : Nat) : Int) = 16 from rfl] at hn20
  have hv20 := nextV_lt lk 0 16 (by omega)
  have HC1 := Lib.hid hc
  rw [hG] at hn20 HC1 ⊢
  have HN20 := Lib.hid hn20
  have HGE := Lib.hid (show w.heap.size ≤ G by omega)
  clear hc hm HW1 hn20 hG HR
  go_wp2_with fail
  refine HN20.out.mono ?_
  rintro e w2 ⟨rfl, hcd, hg⟩
  obtain ⟨t, ht⟩ : ∃ t, nextV lk 0 16 = t := ⟨_, rfl⟩
  rw [ht] at hv20 ⊢
  have HC2 := Lib.hid (And.intro hcd (show Below w.heap.size w w2 from HB1.out.grown hg HB1.out.size (fun b hb => by injection hb with hb; have := HGE.out; omega)))
  generalize nextP lk 0 16 = q0 at HC2
  clear hcd hg HN20 HC1 HB1 ht
  go_wp2_with fail
  go_loopw [5, 4] (fun i vo wr => ∃ (j : Nat) (ls : List TimerM) (q : Nat) (A9 : Option Addr) (c9 : Nat), ls.length + j ≤ 15 ∧ i = .int .i64 (j : Int) ∧ vo = .slice A9 ls.length c9 ∧ WhGood ls ∧ (ls.length ≤ c9 ∧ c9 ≤ maxLen) ∧ CodesAt wr G A k0 c lk G q ∧ TmRd wr wr.heap.size A9 ls.length ls ∧ (∀ ad, A9 = some ad → G < ad.block) ∧ Below w.heap.size w wr) (fun i _ _ => (intOf i).toNat)
  case atStart => exact ⟨t, [], q0, none, 0, by simp only [List.length_nil]; omega, rfl, rfl, WhGood.nil, ⟨Nat.le_refl _, by unfold maxLen; omega⟩, HC2.out.1, TmRd.nil, (fun _ h => by cases h), HC2.out.2⟩
  case round =>
    clear HC2 hv20
    obtain ⟨j, ls, q, A9, c9, hj, rfl, rfl, hgd, hcp, hcd, hsl⟩ := hrel
    have HCP := Lib.hid hcp
    have HGD := Lib.hid hgd
    obtain ⟨m, hm⟩ : ∃ z, ls.length = z := ⟨_, rfl⟩
    rw [hm] at hsl hj HCP ⊢
    have HLS := Lib.hid hm
    have HC := Lib.hid (And.intro hcd hsl)
    clear hcp hgd hcd hsl hm
    by_cases hj0 : 0 < j
    · have d1 : decide ((j : Int) > 0) = true := by simp; omega
      obtain ⟨p, hp⟩ : ∃ p, j = p + 1 := ⟨j - 1, by omega⟩
      have y5 : IntKind.i64.wrap ((j : Int) - 1) = (p : Int) := by rw [IntWalk.i64_in _ (by omega)]; omega
      have y6 : (j : Int) - 1 = (p : Int) := by omega
      have hj2 : m + 1 + p ≤ 15 := by omega
      have hjp : p < j := by omega
      clear hp
      have hn6 := HC.out.1.callNext 6 (by omega)
      rw [show ((6 : Nat) : Int) = 6 from rfl] at hn6
      have HN6 := Lib.hid hn6
      have hv6 := nextV_lt lk q 6 (by omega)
      obtain ⟨u, hu⟩ : ∃ z, nextV lk q 6 = z := ⟨_, rfl⟩
      rw [hu] at hv6 HN6
      clear hn6 hu
      go_wp2_with fail
      refine HN6.out.mono ?_
      rintro e w6 ⟨rfl, hcd, hg⟩
      have HC6 := Lib.hid (And.intro hcd (tm_keep HC.out.2 HGE.out hg))
      generalize nextP lk q 6 = q1 at HC6
      clear hcd hg HC HN6
      have hn3 := HC6.out.1.callNext 3 (by omega)
      rw [show ((3 : Nat) : Int) = 3 from rfl] at hn3
      have HN3 := Lib.hid hn3
      have hv3 := nextV_lt lk q1 3 (by omega)
      obtain ⟨x3, hx3⟩ : ∃ z, nextV lk q1 3 = z := ⟨_, rfl⟩
      rw [hx3] at hv3 HN3
      clear hn3 hx3
      obtain ⟨Y, hY⟩ : ∃ y, UInt8.ofNat x3 = y := ⟨_, rfl⟩
      have hYn : Y.toNat = x3 := by rw [← hY, UInt8.toNat_ofNat', Nat.mod_eq_of_lt (by omega)]
      have y7 : IntKind.u8.wrap (x3 : Int) = (Y.toNat : Int) := by rw [IntKind.wrap_u8, hYn]; omega
      have y8 : (x3 : Int) % 256 = (Y.toNat : Int) := by rw [hYn]; omega
      obtain ⟨ky, hky⟩ : ∃ z, ((keyB Y).map u8v).toArray = z := ⟨_, rfl⟩
      have hby := key_byte Y
      rw [hky] at hby
      have HBY := Lib.hid hby
      have HKY := Lib.hid hky
      clear hby hky hY hYn
      go_wp2_with fail
      refine HN3.out.mono ?_
      rintro e w7 ⟨rfl, hcd, hg⟩
      have HC7 := Lib.hid (And.intro hcd (tm_keep HC6.out.2 HGE.out hg))
      generalize nextP lk q1 3 = q2 at HC7
      clear hcd hg HC6 HN3
      have hn5 := HC7.out.1.callNext 5 (by omega)
      rw [show ((5 : Nat) : Int) = 5 from rfl] at hn5
      have HN5 := Lib.hid hn5
      have hv5 := nextV_lt lk q2 5 (by omega)
      obtain ⟨x5, hx5⟩ : ∃ z, nextV lk q2 5 = z := ⟨_, rfl⟩
      rw [hx5] at hv5 HN5
      clear hn5 hx5
      go_wp2_with (refine wpList_build_as rfl 25 [(0, .tmp 19)] rfl ky ?_ ?_; exact HBY.out)
      refine HN5.out.mono ?_
      rintro e w8 ⟨rfl, hcd, hg⟩
      have HC8 := Lib.hid (And.intro hcd (tm_keep HC7.out.2 HGE.out hg))
      generalize nextP lk q2 5 = q3 at HC8
      clear hcd hg HC7 HN5
      obtain ⟨kd, hkd⟩ : ∃ z : Int, 1 + (x5 : Int) = z := ⟨_, rfl⟩
      have y9 : IntKind.i64.wrap (1 + (x5 : Int)) = kd := by rw [IntWalk.i64_in _ (by omega)]; omega
      have hok : (TimerM.mk (u : Int) (keyB Y) kd).ok := ⟨⟨by show -9223372036854775808 ≤ (u : Int); omega, by show (u : Int) ≤ 9223372036854775807; omega⟩, keyB_length Y, ⟨by show -9223372036854775808 ≤ kd; omega, by show kd ≤ 9223372036854775807; omega⟩⟩
      have hpm : permT (TimerM.mk (u : Int) (keyB Y) kd) = true := by
        simp only [permT, Bool.and_eq_true, decide_eq_true_eq]
        omega
      have hbt := timer_made (u : Int) (keyB Y) kd (keyB_length Y)
      obtain ⟨tc, htc⟩ : ∃ z, (TimerM.mk (u : Int) (keyB Y) kd).cells.toArray = z := ⟨_, rfl⟩
      rw [HKY.out, htc] at hbt
      have hst := refSetT_any A9 m c9 ls ⟨u, keyB Y, kd⟩ w8 hok ⟨by omega, HCP.out.1, HCP.out.2, HC8.out.2.1⟩
      have hle := setT_le ls ⟨u, keyB Y, kd⟩
      rw [HLS.out] at hle
      rw [htc] at hst
      obtain ⟨l2, hl2⟩ : ∃ z, setT ls ⟨u, keyB Y, kd⟩ = z := ⟨_, rfl⟩
      have HG2 := Lib.hid (show WhGood l2 from hl2 ▸ good_set HGD.out hok hpm)
      rw [hl2] at hst hle
      have HST := Lib.hid hst
      have HBT := Lib.hid hbt
      have HLE := Lib.hid hle
      clear hok hpm hbt htc hst hle hl2 hkd
      go_wp2_with (refine wpList_build_as rfl 27 [(0, .tmp 16), (1, .tmp 20), (2, .tmp 23)] rfl tc ?_ ?_; exact HBT.out)
      refine HST.out.mono ?_
      rintro e w10 ⟨v, rfl, A8, c8, rfl, h1, h2, hr, hnew, hb⟩
      have hG9 := HC8.out.1.lt
      have HF := Lib.hid (show (l2.length ≤ c8 ∧ c8 ≤ maxLen) ∧ CodesAt w10 G A k0 c lk G q3 ∧ TmRd w10 w10.heap.size A8 l2.length l2 ∧ (∀ ad, A8 = some ad → G < ad.block) ∧ Below w.heap.size w w10 from ⟨⟨h1, h2⟩, HC8.out.1.below hb, hr, fun ad h => by have h0 := hnew ad h; omega, HC8.out.2.2.2.trans (hb.mono HC8.out.2.2.2.size)⟩)
      clear h1 h2 hr hb hnew hG9 HC8 HST
      go_wp2_with fail
      go_roundw
      case rel => exact ⟨p, l2, q3, A8, c8, by have := HLE.out; omega, rfl, rfl, HG2.out, HF.out.1, HF.out.2.1, HF.out.2.2.1, HF.out.2.2.2⟩
      case measure => simp [intOf]; omega
    · obtain rfl : j = 0 := by omega
      have d1 : decide (((0 : Nat) : Int) > 0) = false := by simp
      have HF := Lib.hid HC.out.2
      clear HC
      go_wp2_with fail
      go_ret
      exact ⟨ls, A9, c9, HGD.out, by rw [HLS.out]; omega, by rw [HLS.out]; rfl, by rw [HLS.out]; exact HF.out.1, by rw [HLS.out]; exact HCP.out, HF.out.2.2⟩
end Go.Proofs.Ytffeecaidkeepaa
namespace Go.Proofs.Ytffeecaidkeepaa
open Go.RowKit

def CapWh (n c : Nat) : Prop := n ≤ c ∧ c ≤ maxLen
theorem set_use {F : Nat} (H : WhSetC F) {l l' : List TimerM} {n m : Nat} {t : TimerM} (h : setT l t = l') (hm : l'.length = m) (hn : n ≤ 100) (ht : t.ok) (A : Option Addr) (c : Nat) (W : World) (hc : CapWh n c) (hr : TmRd W W.heap.size A n l) :
    Calls Try.prog F #[.slice A n c, .agg t.cells.toArray] W fun e w' => ∃ A c, e = .returned (.slice A m c) ∧ CapWh m c ∧ TmRd w' w'.heap.size A m l' ∧ (∀ ad, A = some ad → W.heap.size ≤ ad.block) ∧ Below W.heap.size W w' := by
  have h2 := H A n c l t W ht ⟨hn, hc.1, hc.2, hr⟩
  rw [h] at h2
  refine h2.mono ?_
  rintro e w' ⟨v, he, A, c, hv, h1, h2, hr, hf, hb⟩
  subst hv hm
  exact ⟨A, c, he, ⟨h1, h2⟩, hr, hf, hb⟩
theorem cancel_use {F : Nat} (H : WhCancelC F) {l l' : List TimerM} {n m : Nat} {k : List UInt8} {d : Int} (h : cancelT l k d = l') (hm : l'.length = m) (hn : n ≤ 100) (hk : k.length = 32) (hd : inI64 d) (A : Option Addr) (c : Nat) (W : World) (hc : CapWh n c) (hr : TmRd W W.heap.size A n l) :
    Calls Try.prog F #[.slice A n c, .agg (k.map u8v).toArray, .int .i64 d] W fun e w' => ∃ A c, e = .returned (.slice A m c) ∧ CapWh m c ∧ TmRd w' w'.heap.size A m l' ∧ (∀ ad, A = some ad → W.heap.size ≤ ad.block) ∧ Below W.heap.size W w' := by
  have h2 := H A n c l k d W hk hd ⟨hn, hc.1, hc.2, hr⟩
  rw [h] at h2
  refine h2.mono ?_
  rintro e w' ⟨v, he, A, c, hv, h1, h2, hr, hf, hb⟩
  subst hv hm
  exact ⟨A, c, he, ⟨h1, h2⟩, hr, hf, hb⟩
end Go.Proofs.Ytffeecaidkeepaa
namespace Go.Proofs.Ytffeecaidkeepaa
open Go.RowKit

def wb9 : TimerM := ⟨9, List.replicate 32 0, 1⟩
def wb5 : TimerM := ⟨5, List.replicate 32 0, 1⟩
theorem wb9_ok : wb9.ok := ⟨by unfold inI64 wb9; simp, rfl, by unfold inI64 wb9; simp⟩
theorem wb5_ok : wb5.ok := ⟨by unfold inI64 wb5; simp, rfl, by unfold inI64 wb5; simp⟩
theorem wb_a : setT [] wb9 = [wb9] := by rfl
theorem wb_b : setT [wb9] wb5 = [wb5] := by decide +kernel
set_option maxRecDepth 100000 in
set_option maxHeartbeats 8000000 in
theorem wh_begun_any (HT : WhSetC 9) (w : World) : Calls Try.prog 23 #[] w fun e w' => e = .returned (.bool true) ∧ Below w.heap.size w w' := by
  have t1 := set_use HT wb_a (m := 1) rfl (n := 0) (by omega) wb9_ok none 0
  have t2 := set_use HT wb_b (m := 1) rfl (n := 1) (by omega) wb5_ok
  have b9 : Try.prog.built 27 [(0, .int .i64 9), (2, .int .i64 1)] = some wb9.cells.toArray := by kernel_rfl
  have b5 : Try.prog.built 27 [(0, .int .i64 5), (2, .int .i64 1)] = some wb5.cells.toArray := by kernel_rfl
  obtain ⟨s9, hs9⟩ : ∃ z, wb9.cells.toArray = z := ⟨_, rfl⟩
  obtain ⟨s5, hs5⟩ : ∃ z, wb5.cells.toArray = z := ⟨_, rfl⟩
  rw [hs9] at b9 t1
  rw [hs5] at b5 t2
  have HT1 := Lib.hid t1
  have HT2 := Lib.hid t2
  have HB9 := Lib.hid b9
  have HB5 := Lib.hid b5
  have HC0 := Lib.hid (show CapWh 0 0 from ⟨Nat.le_refl _, by unfold maxLen; omega⟩)
  clear HT t1 t2 b9 b5 hs9 hs5
  go_enter Try.func23, Try.ntmps23
  go_wp2_with (refine wpList_build_as rfl 27 [(0, .const (.int .i64 9)), (2, .const (.int .i64 1))] rfl s9 ?_ ?_; exact HB9.out)
  refine (HT1.out w HC0.out TmRd.nil).mono ?_
  rintro e w2 ⟨A1, c1, rfl, hc, hr, -, hb⟩
  have HM := Lib.hid (((Lows.nil w).below hb).cons (tmL A1 1 [wb9]) hr)
  have HC1 := Lib.hid hc
  clear hc hr hb HT1
  go_wp2_with (refine wpList_build_as rfl 27 [(0, .const (.int .i64 5)), (2, .const (.int .i64 1))] rfl s5 ?_ ?_; exact HB5.out)
  refine (HT2.out A1 c1 w2 HC1.out (HM.out.get (f := tmL A1 1 [wb9]) 0 rfl)).mono ?_
  rintro e w3 ⟨A2, c2, rfl, hc, hr, -, hb⟩
  obtain ⟨ab, ao, rfl⟩ := hr.1.addr (by omega)
  have fx := tm_at (hr.at 0 wb5 rfl).2
  rw [show wb5.tm = 5 from rfl] at fx
  have fy : w3.cell? ⟨ab, ao, none⟩ = some (.int .i64 5) := by simpa using fx
  have HF := Lib.hid (HM.out.below hb).bel
  clear hc hr hb HT2 HM
  go_wp2
  go_ret
  exact ⟨rfl, HF.out⟩
end Go.Proofs.Ytffeecaidkeepaa
namespace Go.Proofs.Ytffeecaidkeepaa
open Go.RowKit

theorem TmRd.other {W W' : World} {n : Nat} {A : Option Addr} {l : List TimerM} {row : Option Nat} (h : TmRd W W.heap.size A n l) (hg : W.grownBy W' row) (hne : ∀ ad, A = some ad → row ≠ some ad.block) : TmRd W' W'.heap.size A n l :=
  ⟨⟨h.1.1, h.1.2.1, fun hn => by
    obtain ⟨b, off, e, hlt, hc⟩ := h.1.2.2 hn
    exact ⟨b, off, e, Nat.lt_of_lt_of_le hlt hg.size, fun j v hv => (World.cell?_of_block (hg.block b hlt (fun e2 => hne _ e e2.symm))).trans (hc j v hv)⟩⟩, h.2⟩
set_option maxRecDepth 100000 in
set_option maxHeartbeats 16000000 in
theorem wh_drains_walk (HST : WhSetC 9) (HCA : WhCancelC 11) (HDU : WhDueC 17)
    (w : World) (A : Option Addr) (n c : Nat) (l : List UInt8) (x : Nat) (hnc : n ≤ c) (hcm : c ≤ maxLen) (hr : Rd w w.heap.size A n l) (hx : x ≤ 255) :
    Calls Try.prog 4 #[.slice A n c, .int .u8 (x : Int)] w fun e w' => e = .returned (.bool true) ∧ Below w.heap.size w w' := by
  have HBG := Lib.hid (fun W : World => wh_begun_any HST W)
  have HMD := Lib.hid (made_any A n c l hnc hcm w hr)
  have HCAH := Lib.hid HCA
  have HDUH := Lib.hid HDU
  obtain ⟨ik, hik, hiz, his, hib⟩ := timerInfo
  have HKI := Lib.hid (And.intro hik (And.intro hiz (And.intro his hib)))
  clear hik hiz his hib
  obtain ⟨tn, htn⟩ : ∃ z, x % 7 = z := ⟨_, rfl⟩
  obtain ⟨tz, htz⟩ : ∃ z : Int, (tn : Int) = z := ⟨_, rfl⟩
  have ex1 : IntKind.i64.wrap (x : Int) = (x : Int) := IntWalk.i64_in _ (by omega)
  have ex2 : (x : Int) % 7 = tz := by omega
  have ex3 : (x : Int).tmod 7 = tz := by rw [Int.tmod_eq_emod_of_nonneg (by omega)]; omega
  have HTZ := Lib.hid (show inI64 tz from ⟨by omega, by omega⟩)
  clear HST HCA HDU hr htn htz
  go_enter Try.func4, Try.ntmps4
  go_wp2_with fail
  refine HMD.out.mono ?_
  rintro e w1 ⟨ls, A1, c1, hgd, hln, rfl, hrd, hcp, hb⟩
  obtain ⟨m, hm⟩ : ∃ z, ls.length = z := ⟨_, rfl⟩
  rw [hm] at hln hrd hcp ⊢
  have HLN := Lib.hid hm
  have HGD := Lib.hid hgd
  have HB1 := Lib.hid hb
  have HL1 := Lib.hid hrd
  have HC1 := Lib.hid (show CapWh m c1 from hcp)
  clear hgd hrd hcp hb hm HMD
  go_upto_region 5 with fail
  clear ex1 ex2 ex3
  go_loopw [7, 8, 9] (fun vo vr vi wq => ∃ (i : Nat) (Ar : Option Addr) (cr : Nat), i ≤ m ∧ vi = .int .i64 (i : Int) ∧ vr = .slice Ar (m - i) cr ∧ CapWh (m - i) cr ∧ (∀ s ∈ ls.take i, s.tm ≤ tz) ∧ (∀ ad, Ar = some ad → vo.ownBlock ≠ some ad.block) ∧ wq.ownsRow w1.heap.size 27 34 vo i (tmsV (ls.take i)).flatten ∧ TmRd wq wq.heap.size Ar (m - i) (ls.drop i) ∧ Below w1.heap.size w1 wq) (fun _ _ vi _ => m + 1 - (intOf vi).toNat)
  case atStart => exact ⟨0, A1, c1, Nat.zero_le _, rfl, rfl, HC1.out, (fun s hs => by cases hs), (fun ad _ h => by cases h), World.ownsRow_nil _ _ _ _, HL1.out, Below.refl _ _⟩
  case round =>
    obtain ⟨i, Ar, cr, him, rfl, rfl, hcr, hall, hne, hown, hrr, hbl⟩ := hrel
    obtain ⟨wq, hwq0⟩ : ∃ z, wr = z := ⟨_, rfl⟩
    rw [hwq0] at hown hrr hbl ⊢
    clear hwq0
    have d1 : decide ((i : Int) ≤ (m : Int)) = true := by simp; omega
    have HX := Lib.hid (And.intro hown (And.intro hrr hbl))
    have HCR := Lib.hid hcr
    have HNE := Lib.hid hne
    clear hown hrr hbl hcr hne
    have hdu := HDUH.out Ar (m - i) cr (ls.drop i) tz wq HTZ.out ⟨by omega, HCR.out.1, HCR.out.2, HX.out.2.1⟩
    by_cases hdue : ∃ a r, ls.drop i = a :: r ∧ a.tm ≤ tz
    · obtain ⟨a, r, har, hat⟩ := hdue
      have hga : WhGood (a :: r) := har ▸ good_drop HGD.out i
      have him2 : i < m := by
        have h := congrArg List.length har
        rw [List.length_drop, HLN.out, List.length_cons] at h
        omega
      rw [har, due_cons hga, if_pos hat] at hdu
      have hai : ls[i]? = some a := by
        have h := congrArg (fun z => z[0]?) har
        simp only [List.getElem?_drop, Nat.add_zero, List.getElem?_cons_zero] at h
        exact h
      have hr1 : ls.drop (i + 1) = r := by
        rw [← List.drop_drop, har]; rfl
      have HAK := Lib.hid (HGD.out.ok a (List.mem_of_getElem? hai))
      obtain ⟨ac, hac⟩ : ∃ z, a.cells.toArray = z := ⟨_, rfl⟩
      obtain ⟨ak, hak⟩ : ∃ z, (a.peer.map u8v).toArray = z := ⟨_, rfl⟩
      rw [hac] at hdu
      have HAC := Lib.hid hac
      have HAKK := Lib.hid hak
      have HDUE := Lib.hid hdu
      obtain ⟨mi, hmi⟩ : ∃ z, m - i = z := ⟨_, rfl⟩
      obtain ⟨i1, hi1⟩ : ∃ z, i + 1 = z := ⟨_, rfl⟩
      obtain ⟨ms1, hms1⟩ : ∃ z, m - i1 = z := ⟨_, rfl⟩
      have hcu := cancel_use HCAH.out (cancel_head hga) (m := ms1) (by rw [← hr1, hi1, List.length_drop, HLN.out, hms1]) (n := mi) (by omega) HAK.out.2.1 HAK.out.2.2 Ar cr
      rw [hak] at hcu
      have HCU := Lib.hid hcu
      have HTK := Lib.hid (show ls.take i1 = ls.take i ++ [a] from by rw [← hi1]; exact take_snoc hai)
      have HALL := Lib.hid (show ∀ s ∈ ls.take i1, s.tm ≤ tz from by
        rw [← hi1, take_snoc hai]
        intro s hs
        rcases List.mem_append.1 hs with hs | hs
        · exact hall s hs
        · rw [List.mem_singleton] at hs; rw [hs]; exact hat)
      have HRD := Lib.hid (show ls.drop i1 = r from by rw [← hi1]; exact hr1)
      have HAR := Lib.hid har
      have e1 : IntKind.i64.wrap ((i : Int) + 1) = (i1 : Int) := by rw [IntWalk.i64_in _ (by omega)]; omega
      have e2 : (i : Int) + 1 = (i1 : Int) := by omega
      have hi1m : i1 ≤ m := by omega
      have HI1 := Lib.hid hi1
      have HMS := Lib.hid hms1
      rw [hmi] at HX HCR HDUE ⊢
      clear hdu hac hak hcu hga hall har hai hr1 hat hi1 hmi hms1
      go_wp2_with fail
      refine HDUE.out.mono ?_
      rintro e wd ⟨rfl, hb⟩
      have HXd := Lib.hid (show wd.ownsRow w1.heap.size 27 34 u7 i (tmsV (ls.take i)).flatten ∧ TmRd wd wd.heap.size Ar mi (ls.drop i) ∧ Below w1.heap.size w1 wd from ⟨own_below HX.out.1 hb, (HX.out.2.1.below hb).mono hb.size, HX.out.2.2.trans (hb.mono HX.out.2.2.size)⟩)
      clear hb HX HDUE
      have HZ := Lib.hid (Blk.new wd 27 timerZ)
      go_upto_region 8 with (refine wpList_store_obj rfl 27 (.tmp 10) (.tmp 32) rfl wd.heap.size 0 a.cells rfl (by show Value.agg ac = _; rw [HAC.out]) 27 timerZ HZ.out (timer_cellsOf a HAK.out) (by rw [TimerM.cells_length HAK.out, timerZ_length]; omega) (timer_one a) ?_; intro w6 hb4 hg4)
      rw [setL_all timerZ a.cells (by rw [TimerM.cells_length HAK.out, timerZ_length])] at hb4
      have hbf := below_fresh hg4
      have HX6 := Lib.hid (show (w6.ownsRow w1.heap.size 27 34 u7 i (tmsV (ls.take i)).flatten ∧ TmRd w6 w6.heap.size Ar mi (ls.drop i) ∧ Below w1.heap.size w1 w6) ∧ Blk w6 wd.heap.size 27 a.cells ∧ (∀ g, u7.ownBlock = some g → g < wd.heap.size) from ⟨⟨own_below HXd.out.1 hbf, (HXd.out.2.1.below hbf).mono hbf.size, HXd.out.2.2.trans (hbf.mono HXd.out.2.2.size)⟩, hb4, fun g hg => (HXd.out.1.lt g hg).2⟩)
      clear hb4 hg4 HZ hbf HXd
      generalize wd.heap.size = P1 at HX6 ⊢
      go_upto_region 10 with (first | (refine wpList_load_obj rfl 27 (.tmp 10) rfl P1 0 rfl a.cells HX6.out.2.1.all _ Try.underlying27 rfl (timer_cellsOf a HAK.out) ?_; rw [HAC.out]) | (refine wpList_buildOne rfl 23 27 (.tmp 37) rfl ac rfl 34 Try.underlying23 ik HKI.out.1 HKI.out.2.2.1 _ HKI.out.2.1 (by omega) (by omega) (by rw [← HAC.out, List.size_toArray, TimerM.cells_length HAK.out]) ?_) | (refine wpList_append_own_at _ rfl (.tmp 36) (.tmp 38) 23 rfl w1.heap.size 27 ik _ 34 48 Try.underlying23 HKI.out.1 HKI.out.2.1 HKI.out.2.2.1 HKI.out.2.2.2 (by rfl) (by omega) u7 i _ rfl (HX6.out.1.1.alloc (.cells ac 27)) ⟨w6.heap.size, 0, none⟩ 1 1 a.cells rfl (by rw [TimerM.cells_length HAK.out]) (fun q v hv => by rw [Go.WideShapes.add_plain, Nat.zero_add, ← HAC.out, (Blk.new w6 27 a.cells).cell]; exact hv) (timer_one a) (by unfold maxLen; omega) (by omega) (HX6.out.1.2.2.alloc HX6.out.1.2.2.size (.cells ac 27)).size ?_; intro v7 w7 ho7 hg7 _ hob7))
      have hba : Below w6.heap.size w6 (w6.alloc (.cells ac 27)) := (Below.refl _ _).alloc (Nat.le_refl _) _
      have HX7 := Lib.hid (show (w7.ownsRow w1.heap.size 27 34 v7 i1 (tmsV (ls.take i1)).flatten ∧ TmRd w7 w7.heap.size Ar mi (a :: r) ∧ Below w1.heap.size w1 w7) ∧ Blk w7 P1 27 a.cells ∧ (∀ g, v7.ownBlock = some g → g < w7.heap.size) from by
        refine ⟨⟨?_, ?_, ?_⟩, ?_, fun g hg => (ho7.lt g hg).2⟩
        · rw [HTK.out, tmsV_snoc, ← HI1.out]; exact ho7
        · have h := ((HX6.out.1.2.1.below hba).mono hba.size).other hg7 (fun ad ha => HNE.out ad ha)
          rw [HAR.out] at h
          exact h
        · exact (HX6.out.1.2.2.trans (hba.mono HX6.out.1.2.2.size)).grown hg7 (Nat.le_trans HX6.out.1.2.2.size hba.size) (own_from HX6.out.1.1)
        · exact (hg7.block _ (Nat.lt_of_lt_of_le HX6.out.2.1.lt hba.size) (fun e => by have := HX6.out.2.2 _ e.symm; omega)).trans (HX6.out.2.1.below hba HX6.out.2.1.lt))
      clear ho7 hg7 hob7 hba HX6
      have fk := kind_at HX7.out.2.1.all HAK.out
      go_wp2_with (refine wpList_load_obj rfl 25 (.tmp 41) rfl P1 1 rfl (a.peer.map u8v) (peer_at HX7.out.2.1.all) _ Try.underlying25 rfl (key_cellsOf _ HAK.out.2.1) ?_; rw [HAKK.out])
      refine (HCU.out w7 HCR.out HX7.out.1.2.1).mono ?_
      rintro e w8 ⟨A8, c8, rfl, hc8, hr8, hf8, hb⟩
      have HX8 := Lib.hid (show w8.ownsRow w1.heap.size 27 34 v7 i1 (tmsV (ls.take i1)).flatten ∧ TmRd w8 w8.heap.size A8 ms1 (ls.drop i1) ∧ Below w1.heap.size w1 w8 ∧ (∀ ad, A8 = some ad → v7.ownBlock ≠ some ad.block) from ⟨own_below HX7.out.1.1 hb, by rw [HRD.out]; exact hr8, HX7.out.1.2.2.trans (hb.mono HX7.out.1.2.2.size), fun ad ha h => by have h1 := HX7.out.2.2 _ h; have h2 := hf8 ad ha; omega⟩)
      have HC8 := Lib.hid hc8
      clear hc8 hr8 hf8 hb HCU HX7 fk
      go_wp2_with fail
      go_roundw
      case rel => exact ⟨i1, A8, c8, hi1m, rfl, by rw [HMS.out], by rw [HMS.out]; exact HC8.out, HALL.out, HX8.out.2.2.2, HX8.out.1, by rw [HMS.out]; exact HX8.out.2.1, HX8.out.2.2.1⟩
      case measure => simp [intOf]; omega
    · have hlate : ∀ s ∈ ls.drop i, ¬ s.tm ≤ tz := by
        intro s hs
        cases hd : ls.drop i with
        | nil => rw [hd] at hs; cases hs
        | cons a r =>
          rw [hd] at hs
          exact late_all (hd ▸ good_drop HGD.out i) (fun h => hdue ⟨a, r, hd, h⟩) s hs
      have hd0 : dueT (ls.drop i) tz = (timer0, false) := by
        cases hd : ls.drop i with
        | nil => rfl
        | cons a r => rw [due_cons (hd ▸ good_drop HGD.out i), if_neg (fun h => hdue ⟨a, r, hd, h⟩)]
      rw [hd0] at hdu
      obtain ⟨zc, hzc⟩ : ∃ z, timer0.cells.toArray = z := ⟨_, rfl⟩
      rw [hzc] at hdu
      have HZC := Lib.hid hzc
      have HDUE := Lib.hid hdu
      clear hdu hd0 hdue hzc
      go_wp2_with fail
      refine HDUE.out.mono ?_
      rintro e wd ⟨rfl, hb⟩
      have HXd := Lib.hid (show wd.ownsRow w1.heap.size 27 34 u7 i (tmsV (ls.take i)).flatten ∧ TmRd wd wd.heap.size Ar (m - i) (ls.drop i) ∧ Below w1.heap.size w1 wd from ⟨own_below HX.out.1 hb, (HX.out.2.1.below hb).mono hb.size, HX.out.2.2.trans (hb.mono HX.out.2.2.size)⟩)
      clear hb HX HDUE
      have HZ := Lib.hid (Blk.new wd 27 timerZ)
      go_upto_region 8 with (refine wpList_store_obj rfl 27 (.tmp 10) (.tmp 32) rfl wd.heap.size 0 timer0.cells rfl (by show Value.agg zc = _; rw [HZC.out]) 27 timerZ HZ.out (timer_cellsOf timer0 timer0_ok) (by rw [TimerM.cells_length timer0_ok, timerZ_length]; omega) (timer_one timer0) ?_; intro wq hb4 hg4)
      have hbf := below_fresh hg4
      have HX := Lib.hid (show wq.ownsRow w1.heap.size 27 34 u7 i (tmsV (ls.take i)).flatten ∧ TmRd wq wq.heap.size Ar (m - i) (ls.drop i) ∧ Below w1.heap.size w1 wq from ⟨own_below HXd.out.1 hbf, (HXd.out.2.1.below hbf).mono hbf.size, HXd.out.2.2.trans (hbf.mono HXd.out.2.2.size)⟩)
      clear hb4 hg4 HZ hbf HXd d1
      go_upto_region 11 with fail
      have hlen : i + (m - i) = m := by omega
      have e1 : IntKind.i64.wrap ((i : Int) + ((m - i : Nat) : Int)) = (m : Int) := by rw [IntWalk.i64_in _ (by omega)]; omega
      have e2 : (i : Int) + ((m - i : Nat) : Int) = (m : Int) := by omega
      have e3 : ((m : Int) != (m : Int)) = false := by simp
      obtain ⟨mr, hmr⟩ : ∃ z, m - i = z := ⟨_, rfl⟩
      rw [hmr] at e1 e2 HX ⊢
      obtain ⟨Ao, co, rfl, _, _, _⟩ := own_sliceK HX.out.1
      have HO := Lib.hid (TmRd.of_own (by rw [List.length_take, HLN.out]; omega) (fun s hs => HGD.out.ok s (List.mem_of_mem_take hs)) HX.out.1)
      have HR := Lib.hid HX.out.2.1
      have HLB := Lib.hid HX.out.2.2
      have HLATE := Lib.hid hlate
      have HIM := Lib.hid him
      have HMR := Lib.hid hmr
      have HALL := Lib.hid hall
      clear hlen HX hlate hall
      generalize hwq : wq = wz at HO HR HLB ⊢
      clear hwq
      go_wp2_with fail
      clear e1 e2 e3
      go_loopw [56] (fun v wr => ∃ j : Nat, j ≤ i ∧ v = .int .i64 (j : Int) ∧ Below wz.heap.size wz wr) (fun v _ => i - (intOf v).toNat)
      case atStart => exact ⟨0, Nat.zero_le _, rfl, Below.refl _ _⟩
      case round =>
        obtain ⟨j, hj, rfl, hW⟩ := hrel
        have HW := Lib.hid hW
        clear hW
        by_cases hjn : j < i
        · have d1 : decide ((j : Int) < (i : Int)) = true := by simp; omega
          obtain ⟨bo, oo, rfl⟩ := HO.out.1.addr (by omega)
          obtain ⟨bl, ol, rfl⟩ := HL1.out.1.addr (by omega)
          obtain ⟨s, hs⟩ : ∃ s, ls[j]? = some s := ⟨ls[j]'(by rw [HLN.out]; omega), List.getElem?_eq_getElem _⟩
          have hst : (ls.take i)[j]? = some s := by rw [List.getElem?_take, if_pos hjn]; exact hs
          have HOK := Lib.hid (HGD.out.ok s (List.mem_of_getElem? hs))
          have hat := HO.out.at j s hst
          have HLA := Lib.hid (hat.2.mono HW.out hat.1)
          have hbl : Below w1.heap.size w1 wr := HLB.out.trans (HW.out.mono HLB.out.size)
          have hat2 := HL1.out.at j s hs
          have HLB2 := Lib.hid (show ∀ W, Below wr.heap.size wr W → At W bl (ol + j * 34) s.cells from fun W hW => hat2.2.mono (hbl.trans (hW.mono hbl.size)) hat2.1)
          have hdue := HALL.out s (List.mem_of_getElem? hst)
          have d2 : decide (s.tm > tz) = false := by simp; omega
          have d3 : decide (tz < s.tm) = false := d2
          obtain ⟨sc, hsc⟩ : ∃ z, s.cells.toArray = z := ⟨_, rfl⟩
          have HSC := Lib.hid hsc
          have HEQ := Lib.hid (show ∀ W, (Op.equalIn 10000 27 (.agg sc) (.agg sc)).run Try.prog W = .ok true W from fun W => by have h := timer_eqd s s HOK.out HOK.out W true (by simp); rw [hsc] at h; exact h)
          have ejm : (j : Int) < (m : Int) := by have := HIM.out; omega
          clear hat hat2 hs hst hbl hdue hsc
          have HZ := Lib.hid (Blk.new wr 27 timerZ)
          go_upto_region 16 with (first | (refine wpList_load_obj rfl 27 (.tmp 59) rfl bo _ rfl s.cells HLA.out _ Try.underlying27 rfl (timer_cellsOf s HOK.out) ?_; rw [HSC.out]) | (refine wpList_store_obj rfl 27 (.tmp 13) (.tmp 60) rfl wr.heap.size 0 s.cells rfl (by show Value.agg sc = _; rw [HSC.out]) 27 timerZ HZ.out (timer_cellsOf s HOK.out) (by rw [TimerM.cells_length HOK.out, timerZ_length]; omega) (timer_one s) ?_; intro w6 hb4 hg4))
          rw [setL_all timerZ s.cells (by rw [TimerM.cells_length HOK.out, timerZ_length])] at hb4
          have HM := Lib.hid (show Lows wr [blkL wr.heap.size 27 s.cells] w6 from ((Lows.nil wr).below (below_fresh hg4)).cons (blkL wr.heap.size 27 s.cells) hb4)
          clear hb4 hg4 HZ d1 HLA
          obtain ⟨P1, hP1⟩ : ∃ z, wr.heap.size = z := ⟨_, rfl⟩
          rw [show (Lows wr [blkL wr.heap.size 27 s.cells] w6) = (Lows wr [blkL P1 27 s.cells] w6) by rw [hP1]] at HM
          rw [hP1]
          clear hP1
          refine wp_region_held_drew (S := fun W' => Lows wr [blkL P1 27 s.cells] W') (by kernel_rfl) (HM.out.drew) (fun hHeld => ?_)
          replace HM := Lib.hid HM.out.drew
          generalize w6.drew = wd1 at HM hHeld ⊢
          refine take_first (v := .agg sc) 0 rfl (by kernel_rfl) (by kernel_rfl) (by kernel_rfl) (fun _ _ _ h => h) (by rw [← HSC.out]; exact yields_load_obj (by rfl) 27 (.tmp 13) rfl P1 0 rfl s.cells (fun w' hb => (Lows.blk hb 0 rfl).all) _ Try.underlying27 rfl (timer_cellsOf s HOK.out)) (by assumption) ?_
          (try simp only [Act.put, List.setIfInBounds_toArray, List.set_cons_zero, List.set_cons_succ])
          refine take_first (v := ?_) 1 rfl (by kernel_rfl) (by kernel_rfl) (by kernel_rfl) (fun _ _ _ h => h) (Or.inl ⟨by rfl, ?_⟩) (by assumption) ?_
          rotate_left
          · (intro w hSw; (try dsimp only at hSw); go_simp; try with_reducible rfl)
          (try simp only [Act.put, List.setIfInBounds_toArray, List.set_cons_zero, List.set_cons_succ])
          refine take_first (v := ?_) 2 rfl (by kernel_rfl) (by kernel_rfl) (by kernel_rfl) (fun _ _ _ h => h) (Or.inl ⟨by rfl, ?_⟩) (by assumption) ?_
          rotate_left
          · (intro w hSw; (try dsimp only at hSw); go_simp; try with_reducible rfl)
          (try simp only [Act.put, List.setIfInBounds_toArray, List.set_cons_zero, List.set_cons_succ])
          refine take_first (v := ?_) 3 rfl (by kernel_rfl) (by kernel_rfl) (by kernel_rfl) (fun _ _ _ h => h) (Or.inl ⟨by rfl, ?_⟩) (by assumption) ?_
          rotate_left
          · (intro w hSw; (try dsimp only at hSw); go_simp; try with_reducible rfl)
          (try simp only [Act.put, List.setIfInBounds_toArray, List.set_cons_zero, List.set_cons_succ])
          refine take_first (v := .agg sc) 4 rfl (by kernel_rfl) (by kernel_rfl) (by kernel_rfl) (fun _ _ _ h => h) (by rw [← HSC.out]; exact yields_load_obj (by rfl) 27 (.tmp 64) rfl bl _ rfl s.cells (fun w' hb => HLB2.out w' hb.bel) _ Try.underlying27 rfl (timer_cellsOf s HOK.out)) (by assumption) ?_
          (try simp only [Act.put, List.setIfInBounds_toArray, List.set_cons_zero, List.set_cons_succ])
          refine take_first (v := .bool (!true)) 5 rfl (by kernel_rfl) (by kernel_rfl) (by kernel_rfl) (fun _ _ _ h => h) (yields_cmp_agg true (by rfl) 27 27 61 65 rfl sc sc true rfl rfl timer_noguard (fun w' => HEQ.out w')) (by assumption) ?_
          (try simp only [Act.put, List.setIfInBounds_toArray, List.set_cons_zero, List.set_cons_succ])
          refine take_first (v := ?_) 6 rfl (by kernel_rfl) (by kernel_rfl) (by kernel_rfl) (fun _ _ _ h => h) (Or.inl ⟨by rfl, ?_⟩) (by assumption) ?_
          rotate_left
          · (intro w hSw; (try dsimp only at hSw); go_simp; try with_reducible rfl)
          (try simp only [Act.put, List.setIfInBounds_toArray, List.set_cons_zero, List.set_cons_succ])
          refine take_first (v := ?_) 7 rfl (by kernel_rfl) (by kernel_rfl) (by kernel_rfl) (fun _ _ _ h => h) (Or.inl ⟨by rfl, ?_⟩) (by assumption) ?_
          rotate_left
          · (intro w hSw; (try dsimp only at hSw); go_simp; try with_reducible rfl)
          (try simp only [Act.put, List.setIfInBounds_toArray, List.set_cons_zero, List.set_cons_succ])
          refine take_first (v := ?_) 8 rfl (by kernel_rfl) (by kernel_rfl) (by kernel_rfl) (fun _ _ _ h => h) (Or.inl ⟨by rfl, ?_⟩) (by assumption) ?_
          rotate_left
          · (intro w hSw; (try dsimp only at hSw); have fb := tm_at (Lows.blk hSw 0 rfl).all; go_simp; try with_reducible rfl)
          (try simp only [Act.put, List.setIfInBounds_toArray, List.set_cons_zero, List.set_cons_succ])
          refine take_first (v := ?_) 9 rfl (by kernel_rfl) (by kernel_rfl) (by kernel_rfl) (fun _ _ _ h => h) (Or.inl ⟨by rfl, ?_⟩) (by assumption) ?_
          rotate_left
          · (intro w hSw; (try dsimp only at hSw); go_simp; try with_reducible rfl)
          (try simp only [Act.put, List.setIfInBounds_toArray, List.set_cons_zero, List.set_cons_succ])
          refine take_first (v := ?_) 10 rfl (by kernel_rfl) (by kernel_rfl) (by kernel_rfl) (fun _ _ _ h => h) (Or.inl ⟨by rfl, ?_⟩) (by assumption) ?_
          rotate_left
          · (intro w hSw; (try dsimp only at hSw); go_simp; try with_reducible rfl)
          (try simp only [Act.put, List.setIfInBounds_toArray, List.set_cons_zero, List.set_cons_succ])
          refine take_first (v := ?_) 11 rfl (by kernel_rfl) (by kernel_rfl) (by kernel_rfl) (fun _ _ _ h => h) (Or.inl ⟨by rfl, ?_⟩) (by assumption) ?_
          rotate_left
          · (intro w hSw; (try dsimp only at hSw); go_simp; try with_reducible rfl)
          (try simp only [Act.put, List.setIfInBounds_toArray, List.set_cons_zero, List.set_cons_succ])
          refine wpAnyH_done (by kernel_rfl) ?_ _
          clear hHeld
          have HF := Lib.hid (HW.out.trans (HM.out.bel.mono HW.out.size))
          clear HM
          go_wp2_with fail
          go_roundw
          case rel => exact ⟨j + 1, by omega, by go_num, HF.out⟩
          case measure => simp [intOf]; omega
        · obtain rfl : j = i := by omega
          have d1 : decide ((j : Int) < (j : Int)) = false := by simp
          have HW0 := Lib.hid HW.out
          clear HW HALL
          go_wp2_with fail
          go_loopw [76] (fun v wr => ∃ q : Nat, q ≤ mr ∧ v = .int .i64 (q : Int) ∧ Below wz.heap.size wz wr) (fun v _ => mr - (intOf v).toNat)
          case atStart => exact ⟨0, Nat.zero_le _, rfl, HW0.out⟩
          case round =>
            clear HW0
            obtain ⟨q, hq, rfl, hW⟩ := hrel
            have HW := Lib.hid hW
            clear hW
            by_cases hqn : q < mr
            · have d1 : decide ((q : Int) < (mr : Int)) = true := by simp; omega
              obtain ⟨b, off, rfl⟩ := HR.out.1.addr (by omega)
              obtain ⟨s, hs⟩ : ∃ s, (ls.drop j)[q]? = some s := ⟨(ls.drop j)[q]'(by rw [List.length_drop, HLN.out, HMR.out]; exact hqn), List.getElem?_eq_getElem _⟩
              have HOK := Lib.hid (HR.out.ok hs)
              have hat := HR.out.at q s hs
              have HLA := Lib.hid (hat.2.mono HW.out hat.1)
              have hlt := HLATE.out s (List.mem_of_getElem? hs)
              have d2 : decide (s.tm ≤ tz) = false := by simpa using hlt
              obtain ⟨sc, hsc⟩ : ∃ z, s.cells.toArray = z := ⟨_, rfl⟩
              have HSC := Lib.hid hsc
              clear hat hs hlt hsc
              have HZ := Lib.hid (Blk.new wr 27 timerZ)
              go_upto_region 22 with (first | (refine wpList_load_obj rfl 27 (.tmp 78) rfl b _ rfl s.cells HLA.out _ Try.underlying27 rfl (timer_cellsOf s HOK.out) ?_; rw [HSC.out]) | (refine wpList_store_obj rfl 27 (.tmp 15) (.tmp 79) rfl wr.heap.size 0 s.cells rfl (by show Value.agg sc = _; rw [HSC.out]) 27 timerZ HZ.out (timer_cellsOf s HOK.out) (by rw [TimerM.cells_length HOK.out, timerZ_length]; omega) (timer_one s) ?_; intro w6 hb4 hg4))
              rw [setL_all timerZ s.cells (by rw [TimerM.cells_length HOK.out, timerZ_length])] at hb4
              have HP := Lib.hid hb4
              have HW6 := Lib.hid (HW.out.trans ((below_fresh hg4).mono HW.out.size))
              clear hb4 hg4 HZ d1 HLA HW
              generalize wr.heap.size = P1 at HP ⊢
              have ft := tm_at HP.out.all
              obtain ⟨tq, htq⟩ : ∃ z, s.tm = z := ⟨_, rfl⟩
              rw [htq] at ft d2
              clear htq
              go_wp2_with fail
              go_roundw
              case rel => exact ⟨q + 1, by omega, by go_num, HW6.out⟩
              case measure => simp [intOf]; omega
            · obtain rfl : q = mr := by omega
              have d1 : decide ((q : Int) < (q : Int)) = false := by simp
              have HF0 := Lib.hid (HLB.out.trans (HW.out.mono HLB.out.size))
              clear HW
              go_wp2_with fail
              refine (HBG.out _).mono ?_
              rintro e wb ⟨rfl, hb⟩
              have HF := Lib.hid (HB1.out.trans ((HF0.out.trans (hb.mono HF0.out.size)).mono HB1.out.size))
              clear hb HF0 HBG
              go_wp2
              go_ret
              exact ⟨rfl, HF.out⟩
end Go.Proofs.Ytffeecaidkeepaa
namespace Go.Proofs.Ytffeecaidkeepaa
open Go.RowKit

/-- the sign of a comparison -/
def cmpV (x y : Int) : Int := if x < y then -1 else if y < x then 1 else 0
set_option maxRecDepth 100000 in
set_option maxHeartbeats 8000000 in
theorem cmp64_any (x y : Int) (w : World) : Calls Try.prog 42 #[.int .i64 x, .int .i64 y] w fun e w' => e = .returned (.int .i64 (cmpV x y)) ∧ Below w.heap.size w w' := by
  have hx : (x != x) = false := by simp
  have hy : (y != y) = false := by simp
  have HB := Lib.hid (Below.refl w.heap.size w)
  by_cases h1 : x < y
  · have e1 : decide (x < y) = true := by simpa using h1
    have HR := Lib.hid (show cmpV x y = -1 from by rw [cmpV, if_pos h1])
    clear h1
    go_enter Try.func42, Try.ntmps42
    go_wp2
    go_ret
    exact ⟨by rw [HR.out]; rfl, HB.out⟩
  · have e1 : decide (x < y) = false := by simpa using h1
    by_cases h2 : y < x
    · have e2 : decide (x > y) = true := by simpa using h2
      have e3 : decide (y < x) = true := e2
      have HR := Lib.hid (show cmpV x y = 1 from by rw [cmpV, if_neg h1, if_pos h2])
      clear h1 h2
      go_enter Try.func42, Try.ntmps42
      go_wp2
      go_ret
      exact ⟨by rw [HR.out]; rfl, HB.out⟩
    · have e2 : decide (x > y) = false := by simpa using h2
      have e3 : decide (y < x) = false := e2
      have HR := Lib.hid (show cmpV x y = 0 from by rw [cmpV, if_neg h1, if_neg h2])
      clear h1 h2
      go_enter Try.func42, Try.ntmps42
      go_wp2
      go_ret
      exact ⟨by rw [HR.out]; rfl, HB.out⟩
set_option maxRecDepth 100000 in
set_option maxHeartbeats 8000000 in
theorem cmpI_any (x y : Int) (w : World) : Calls Try.prog 44 #[.int .i64 x, .int .i64 y] w fun e w' => e = .returned (.int .i64 (cmpV x y)) ∧ Below w.heap.size w w' := by
  have hx : (x != x) = false := by simp
  have hy : (y != y) = false := by simp
  have HB := Lib.hid (Below.refl w.heap.size w)
  by_cases h1 : x < y
  · have e1 : decide (x < y) = true := by simpa using h1
    have HR := Lib.hid (show cmpV x y = -1 from by rw [cmpV, if_pos h1])
    clear h1
    go_enter Try.func44, Try.ntmps44
    go_wp2
    go_ret
    exact ⟨by rw [HR.out]; rfl, HB.out⟩
  · have e1 : decide (x < y) = false := by simpa using h1
    by_cases h2 : y < x
    · have e2 : decide (x > y) = true := by simpa using h2
      have e3 : decide (y < x) = true := e2
      have HR := Lib.hid (show cmpV x y = 1 from by rw [cmpV, if_neg h1, if_pos h2])
      clear h1 h2
      go_enter Try.func44, Try.ntmps44
      go_wp2
      go_ret
      exact ⟨by rw [HR.out]; rfl, HB.out⟩
    · have e2 : decide (x > y) = false := by simpa using h2
      have e3 : decide (y < x) = false := e2
      have HR := Lib.hid (show cmpV x y = 0 from by rw [cmpV, if_neg h1, if_neg h2])
      clear h1 h2
      go_enter Try.func44, Try.ntmps44
      go_wp2
      go_ret
      exact ⟨by rw [HR.out]; rfl, HB.out⟩
end Go.Proofs.Ytffeecaidkeepaa
namespace Go.Proofs.Ytffeecaidkeepaa
open Go.RowKit

def i64v (x : Int) : Value := .int .i64 x
/-- the first number that is not 0 -/
def orV (l : List Int) : Int := (l.find? fun x => !(x == 0)).getD 0
theorem orV_none {l : List Int} (h : ∀ (q : Nat) x, l[q]? = some x → x = 0) : orV l = 0 := by
  have e : l.find? (fun x => !(x == 0)) = none := List.find?_eq_none.2 fun x hx => by
    obtain ⟨i, hi, rfl⟩ := List.getElem_of_mem hx
    rw [h i _ (List.getElem?_eq_getElem hi)]
    decide
  rw [orV, e]
  rfl
theorem orV_some {l : List Int} {j : Nat} {x : Int} (hx : l[j]? = some x) (h1 : x ≠ 0) (h : ∀ (q : Nat) x, q < j → l[q]? = some x → x = 0) : orV l = x := by
  have e : l.find? (fun x => !(x == 0)) = some x := by
    rw [List.find?_eq_some_iff_getElem]
    obtain ⟨hi, rfl⟩ := List.getElem?_eq_some_iff.1 hx
    exact ⟨by simpa using h1, j, hi, rfl, fun q hq => by rw [h q _ hq (List.getElem?_eq_getElem (by omega))]; rfl⟩
  rw [orV, e]
  rfl
set_option maxRecDepth 100000 in
set_option maxHeartbeats 8000000 in
theorem cmpOr_any (g n c : Nat) (hn : n ≤ 100) (l : List Int) (hl : l.length = n) (t : TypeId) (w : World) (hb : Blk w g t (l.map i64v)) : Calls Try.prog 41 #[.slice (some ⟨g, 0, none⟩) n c] w fun e w' => e = .returned (.int .i64 (orV l)) ∧ Below w.heap.size w w' := by
  have HB := Lib.hid hb
  have HL := Lib.hid hl
  clear hb hl
  go_enter Try.func41, Try.ntmps41
  go_wp2_with fail
  go_loopw [8] (fun v wr => ∃ j : Nat, j ≤ n ∧ v = .int .i64 (j : Int) ∧ (∀ (q : Nat) x, q < j → l[q]? = some x → x = 0) ∧ Below w.heap.size w wr) (fun v _ => n - (intOf v).toNat)
  case atStart => exact ⟨0, Nat.zero_le _, rfl, fun q _ h => absurd h (Nat.not_lt_zero _), Below.refl _ _⟩
  case round =>
    obtain ⟨j, hj, rfl, hno, hW⟩ := hrel
    have HW := Lib.hid hW
    have HNO := Lib.hid hno
    clear hW hno
    by_cases hjn : j < n
    · have d1 : decide ((j : Int) < (n : Int)) = true := by simp; omega
      obtain ⟨x, hx⟩ : ∃ x, l[j]? = some x := ⟨l[j]'(by rw [HL.out]; exact hjn), List.getElem?_eq_getElem _⟩
      have fx : wr.cell? ⟨g, j, none⟩ = some (.int .i64 x) := by
        rw [(HB.out.below HW.out HB.out.lt).cell j, List.getElem?_map, hx]; rfl
      have HX := Lib.hid hx
      clear hx
      by_cases h0 : x = 0
      · have e1 : (x != 0) = false := by rw [h0]; rfl
        have HZ := Lib.hid h0
        clear h0
        go_wp2_with fail
        go_roundw
        case rel => exact ⟨j + 1, by omega, by go_num, fun q y hq hy => by
          rcases Nat.lt_or_ge q j with h | h
          · exact HNO.out q y h hy
          · obtain rfl : q = j := by omega
            have e := HX.out.symm.trans hy
            injection e with e
            rw [← e]
            exact HZ.out, HW.out⟩
        case measure => simp [intOf]; omega
      · have e1 : (x != 0) = true := by rw [bne_iff_ne]; exact h0
        have HR := Lib.hid (orV_some HX.out h0 HNO.out)
        clear h0
        go_wp2_with fail
        go_ret
        exact ⟨by rw [HR.out]; rfl, HW.out⟩
    · obtain rfl : j = n := by omega
      have d1 : decide ((j : Int) < (j : Int)) = false := by simp
      have HR := Lib.hid (orV_none fun q x hx => HNO.out q x (by rw [← HL.out]; exact (List.getElem?_eq_some_iff.1 hx).1) hx)
      have HF := Lib.hid HW.out
      clear HW HNO
      go_wp2
      go_ret
      exact ⟨by rw [HR.out]; rfl, HF.out⟩
end Go.Proofs.Ytffeecaidkeepaa
namespace Go.Proofs.Ytffeecaidkeepaa
open Go.RowKit

end Go.Proofs.Ytffeecaidkeepaa
namespace Go.Proofs.Ytffeecaidkeepaa
open Go.RowKit

theorem loadBytes_rd {P : Program} : ∀ (l : List UInt8) (w : World) (b off : Nat) (acc : ByteArray), (∀ j (h : j < l.length), w.cell? ⟨b, off + j, none⟩ = some (.int .u8 (l[j].toNat : Int))) →
    (Extern.Bytes.loadBytes ⟨b, off, none⟩ l.length acc).run P w = .ok ⟨acc.data ++ l.toArray⟩ w
  | [], w, b, off, acc, _ => by simp [Extern.Bytes.loadBytes]
  | x :: l, w, b, off, acc, h => by
    have h0 := h 0 (by simp)
    rw [Nat.add_zero] at h0
    have ih := loadBytes_rd (P := P) l w b (off + 1) (acc.push x) (fun j hj => by
      have := h (j + 1) (by simp; omega)
      rw [show off + 1 + j = off + (j + 1) by omega]
      simpa using this)
    have e1 : (Addr.add ⟨b, off, none⟩ 1) = ⟨b, off + 1, none⟩ := by simp [Go.WideShapes.add_plain]
    simp only [List.length_cons, Extern.Bytes.loadBytes, Sem.run_bind, run_load, h0, Result.andThen]
    simp only [List.getElem_cons_zero, Int.toNat_natCast, Nat.toUInt8_eq, UInt8.ofNat_toNat, e1]
    rw [ih]
    congr 1
    simp [ByteArray.push]
theorem bytesOf_rd {P : Program} {w : World} {B n c : Nat} {A : Option Addr} {l : List UInt8} (h : Rd w B A n l) : (Extern.Bytes.bytesOf (.slice A n c)).run P w = .ok ⟨l.toArray⟩ w := by
  rcases Nat.eq_zero_or_pos n with h0 | h0
  · have : l = [] := List.eq_nil_of_length_eq_zero (by rw [h.1, h0])
    subst this
    subst h0
    cases A with
    | none => simp [Extern.Bytes.bytesOf]; rfl
    | some a => simp [Extern.Bytes.bytesOf, Extern.Bytes.loadBytes]; rfl
  · obtain ⟨b, off, rfl, _, hc⟩ := h.at_ h0
    have := loadBytes_rd (P := P) l w b off .empty hc
    rw [h.1] at this
    simp [Extern.Bytes.bytesOf, this]
set_option maxRecDepth 100000 in
theorem compare_any (n m c d B B' : Nat) (A A' : Option Addr) (a b : List UInt8) (w : World) (ha : Rd w B A n a) (hb : Rd w B' A' m b) :
    Calls Try.prog 43 #[.slice A n c, .slice A' m d] w fun e w' => e = .returned (.int .i64 (Lib.compareBytes a b)) ∧ w = w' := by
  have hx : (callFunc 47 #[.slice A n c, .slice A' m d]).run Try.prog w = .ok (.value (.int .i64 (Lib.compareBytes a b))) w := by
    rw [run_callFunc_extern Try.func47 (by kernel_rfl) (by kernel_rfl) (by kernel_rfl) (e := Extern.BytealgCompare.compare) (by kernel_rfl)]
    have e1 : (Extern.BytealgCompare.compare #[.slice A n c, .slice A' m d]).run Try.prog w = .ok (.int .i64 (Lib.compareBytes a b)) w := by
      change Sem.run Try.prog (do pure (goInt (Extern.BytealgCompare.cmp (← Extern.Bytes.bytesOf (.slice A n c)) (← Extern.Bytes.bytesOf (.slice A' m d))))) w = _
      simp only [Sem.run_bind, Sem.run_pure, bytesOf_rd ha, bytesOf_rd hb, Result.andThen, Lib.cmp_eq]
      rfl
    rw [e1]
    rfl
  go_enter Try.func43, Try.ntmps43
  go_wp2
  go_ret
  exact ⟨rfl, rfl⟩
end Go.Proofs.Ytffeecaidkeepaa
namespace Go.Proofs.Ytffeecaidkeepaa
open Go.RowKit

theorem compare_less : ∀ (a b : List UInt8), decide (Lib.compareBytes a b < 0) = Op.bytesLess a b
  | [], [] => rfl
  | [], _ :: _ => rfl
  | _ :: _, [] => rfl
  | x :: a, y :: b => by
    have ih := compare_less a b
    unfold Lib.compareBytes Op.bytesLess
    by_cases h1 : x < y
    · rw [if_pos h1]; simp [h1]
    · by_cases h2 : y < x
      · have hne : (x == y) = false := by
          rw [beq_eq_false_iff_ne]
          intro e
          subst e
          exact h1 h2
        rw [if_neg h1, if_pos h2, hne]
        simp [h1]
      · have he : x = y := by
          apply UInt8.toNat.inj
          rw [UInt8.lt_iff_toNat_lt] at h1 h2
          omega
        subst he
        rw [if_neg h1, if_neg h2, ih]
        simp [h1]
end Go.Proofs.Ytffeecaidkeepaa
namespace Go.Proofs.Ytffeecaidkeepaa
open Go.RowKit

theorem compare_bel (n m c d B B' : Nat) (A A' : Option Addr) (a b : List UInt8) (w : World) (ha : Rd w B A n a) (hb : Rd w B' A' m b) :
    Calls Try.prog 43 #[.slice A n c, .slice A' m d] w fun e w' => e = .returned (.int .i64 (Lib.compareBytes a b)) ∧ Below w.heap.size w w' :=
  (compare_any n m c d B B' A A' a b w ha hb).mono fun _ _ ⟨he, hw⟩ => ⟨he, by subst hw; exact Below.refl _ _⟩
theorem compare_zero : ∀ (a b : List UInt8), a.length = b.length → (Lib.compareBytes a b = 0 ↔ a = b)
  | [], [], _ => by simp [Lib.compareBytes]
  | [], _ :: _, h => by simp at h
  | _ :: _, [], h => by simp at h
  | x :: a, y :: b, h => by
    have ih := compare_zero a b (by simpa using h)
    unfold Lib.compareBytes
    by_cases h1 : x < y
    · rw [if_pos h1]
      have : x ≠ y := fun e => by subst e; exact UInt8.lt_irrefl _ h1
      simp [this]
    · by_cases h2 : y < x
      · rw [if_neg h1, if_pos h2]
        have : x ≠ y := fun e => by subst e; exact UInt8.lt_irrefl _ h2
        simp [this]
      · have he : x = y := by
          apply UInt8.toNat.inj
          rw [UInt8.lt_iff_toNat_lt] at h1 h2
          omega
        subst he
        rw [if_neg h1, if_neg h2, ih]
        simp
theorem cmpV_zero (x y : Int) : cmpV x y = 0 ↔ x = y := by unfold cmpV; split <;> (try split) <;> omega
theorem cmpV_neg (x y : Int) : cmpV x y < 0 ↔ x < y := by unfold cmpV; split <;> (try split) <;> omega
theorem orV_cons0 (l : List Int) : orV (0 :: l) = orV l := rfl
theorem orV_cons {x : Int} (h : x ≠ 0) (l : List Int) : orV (x :: l) = x := by
  have e : (x :: l).find? (fun x => !(x == 0)) = some x := List.find?_cons_of_pos (by simpa using h)
  rw [orV, e]
  rfl
theorem less_or {a b : TimerM} (ha : a.ok) (hb : b.ok) : decide (orV [cmpV a.tm b.tm, Lib.compareBytes a.peer b.peer, cmpV a.kind b.kind] < 0) = lessT a b := by
  unfold lessT
  by_cases h1 : a.tm = b.tm
  · rw [(cmpV_zero _ _).2 h1, orV_cons0, if_pos h1]
    by_cases h2 : a.peer = b.peer
    · rw [(compare_zero _ _ (by rw [ha.2.1, hb.2.1])).2 h2, orV_cons0, if_pos h2]
      by_cases h3 : cmpV a.kind b.kind = 0
      · rw [h3, orV_cons0]
        have := (cmpV_zero _ _).1 h3
        rw [decide_eq_false (show ¬ a.kind < b.kind by omega)]
        rfl
      · rw [orV_cons h3, decide_eq_decide]
        exact cmpV_neg _ _
    · rw [orV_cons (fun h => h2 ((compare_zero _ _ (by rw [ha.2.1, hb.2.1])).1 h)), if_neg h2]
      exact compare_less _ _
  · rw [orV_cons (fun h => h1 ((cmpV_zero _ _).1 h)), if_neg h1, decide_eq_decide]
    exact cmpV_neg _ _
set_option maxRecDepth 100000 in
set_option maxHeartbeats 8000000 in
theorem whBefore_any (a b : TimerM) (w : World) (ha : a.ok) (hb : b.ok) : Calls Try.prog 35 #[.agg a.cells.toArray, .agg b.cells.toArray] w fun e w' => e = .returned (.bool (lessT a b)) ∧ Below w.heap.size w w' := by
  obtain ⟨ca, hca⟩ : ∃ x, a.cells.toArray = x := ⟨_, rfl⟩
  obtain ⟨cb, hcb⟩ : ∃ x, b.cells.toArray = x := ⟨_, rfl⟩
  rw [hca, hcb]
  have hm := ((Lows.nil w).alloc 58 ca a.cells hca.symm).alloc 27 cb b.cells hcb.symm
  have HM := Lib.hid (show Lows w [blkL (w.heap.size + 1) 27 b.cells, blkL w.heap.size 58 a.cells] ((w.alloc (.cells ca 58)).alloc (.cells cb 27)) from by simpa using hm)
  have HOA := Lib.hid ha
  have HOB := Lib.hid hb
  have HR := Lib.hid (less_or ha hb)
  clear hca hcb ha hb hm
  go_enter Try.func35, Try.ntmps35
  go_upto_region 1 with fail
  generalize (w.alloc (.cells ca 58)).alloc (.cells cb 27) = w1 at HM ⊢
  obtain ⟨GB, hGB⟩ : ∃ z, w.heap.size + 1 = z := ⟨_, rfl⟩
  rw [hGB] at HM ⊢
  obtain ⟨GA, hGA⟩ : ∃ z, w.heap.size = z := ⟨_, rfl⟩
  rw [hGA] at HM ⊢
  clear hGA hGB
  refine wp_region_held_drew (S := fun W' => Lows w [blkL GB 27 b.cells, blkL GA 58 a.cells] W') (by kernel_rfl) (HM.out.drew) (fun hHeld => ?_)
  replace HM := Lib.hid HM.out.drew
  generalize w1.drew = wd1 at HM hHeld ⊢
  refine take_first (v := ?_) 0 rfl (by kernel_rfl) (by kernel_rfl) (by kernel_rfl) (fun _ _ _ h => h) (Or.inl ⟨by rfl, ?_⟩) (by assumption) ?_
  rotate_left
  · (intro w hSw; (try dsimp only at hSw); go_simp; try with_reducible rfl)
  (try simp only [Act.put, List.setIfInBounds_toArray, List.set_cons_zero, List.set_cons_succ])
  refine take_first (v := ?_) 1 rfl (by kernel_rfl) (by kernel_rfl) (by kernel_rfl) (fun _ _ _ h => h) (Or.inl ⟨by rfl, ?_⟩) (by assumption) ?_
  rotate_left
  · (intro w hSw; (try dsimp only at hSw); go_simp; try with_reducible rfl)
  (try simp only [Act.put, List.setIfInBounds_toArray, List.set_cons_zero, List.set_cons_succ])
  refine take_first (v := ?_) 2 rfl (by kernel_rfl) (by kernel_rfl) (by kernel_rfl) (fun _ _ _ h => h) (Or.inl ⟨by rfl, ?_⟩) (by assumption) ?_
  rotate_left
  · (intro w hSw; (try dsimp only at hSw); have fb := tm_at (Lows.blk hSw 1 rfl).all; go_simp; try with_reducible rfl)
  (try simp only [Act.put, List.setIfInBounds_toArray, List.set_cons_zero, List.set_cons_succ])
  refine take_first (v := ?_) 3 rfl (by kernel_rfl) (by kernel_rfl) (by kernel_rfl) (fun _ _ _ h => h) (Or.inl ⟨by rfl, ?_⟩) (by assumption) ?_
  rotate_left
  · (intro w hSw; (try dsimp only at hSw); go_simp; try with_reducible rfl)
  (try simp only [Act.put, List.setIfInBounds_toArray, List.set_cons_zero, List.set_cons_succ])
  refine take_first (v := ?_) 4 rfl (by kernel_rfl) (by kernel_rfl) (by kernel_rfl) (fun _ _ _ h => h) (Or.inl ⟨by rfl, ?_⟩) (by assumption) ?_
  rotate_left
  · (intro w hSw; (try dsimp only at hSw); have fb := tm_at (Lows.blk hSw 0 rfl).all; go_simp; try with_reducible rfl)
  (try simp only [Act.put, List.setIfInBounds_toArray, List.set_cons_zero, List.set_cons_succ])
  refine take_first (v := ?_) 6 rfl (by kernel_rfl) (by kernel_rfl) (by kernel_rfl) (fun _ _ _ h => h) (Or.inl ⟨by rfl, ?_⟩) (by assumption) ?_
  rotate_left
  · (intro w hSw; (try dsimp only at hSw); go_simp; try with_reducible rfl)
  (try simp only [Act.put, List.setIfInBounds_toArray, List.set_cons_zero, List.set_cons_succ])
  refine take_first (v := ?_) 7 rfl (by kernel_rfl) (by kernel_rfl) (by kernel_rfl) (fun _ _ _ h => h) (Or.inl ⟨by rfl, ?_⟩) (by assumption) ?_
  rotate_left
  · (intro w hSw; (try dsimp only at hSw); go_simp; try with_reducible rfl)
  (try simp only [Act.put, List.setIfInBounds_toArray, List.set_cons_zero, List.set_cons_succ])
  refine take_first (v := ?_) 8 rfl (by kernel_rfl) (by kernel_rfl) (by kernel_rfl) (fun _ _ _ h => h) (Or.inl ⟨by rfl, ?_⟩) (by assumption) ?_
  rotate_left
  · (intro w hSw; (try dsimp only at hSw); go_simp; try with_reducible rfl)
  (try simp only [Act.put, List.setIfInBounds_toArray, List.set_cons_zero, List.set_cons_succ])
  refine take_first (v := ?_) 9 rfl (by kernel_rfl) (by kernel_rfl) (by kernel_rfl) (fun _ _ _ h => h) (Or.inl ⟨by rfl, ?_⟩) (by assumption) ?_
  rotate_left
  · (intro w hSw; (try dsimp only at hSw); go_simp; try with_reducible rfl)
  (try simp only [Act.put, List.setIfInBounds_toArray, List.set_cons_zero, List.set_cons_succ])
  refine take_first (v := ?_) 10 rfl (by kernel_rfl) (by kernel_rfl) (by kernel_rfl) (fun _ _ _ h => h) (Or.inl ⟨by rfl, ?_⟩) (by assumption) ?_
  rotate_left
  · (intro w hSw; (try dsimp only at hSw); go_simp; try with_reducible rfl)
  (try simp only [Act.put, List.setIfInBounds_toArray, List.set_cons_zero, List.set_cons_succ])
  refine take_first (v := ?_) 12 rfl (by kernel_rfl) (by kernel_rfl) (by kernel_rfl) (fun _ _ _ h => h) (Or.inl ⟨by rfl, ?_⟩) (by assumption) ?_
  rotate_left
  · (intro w hSw; (try dsimp only at hSw); go_simp; try with_reducible rfl)
  (try simp only [Act.put, List.setIfInBounds_toArray, List.set_cons_zero, List.set_cons_succ])
  refine take_first (v := ?_) 13 rfl (by kernel_rfl) (by kernel_rfl) (by kernel_rfl) (fun _ _ _ h => h) (Or.inl ⟨by rfl, ?_⟩) (by assumption) ?_
  rotate_left
  · (intro w hSw; (try dsimp only at hSw); go_simp; try with_reducible rfl)
  (try simp only [Act.put, List.setIfInBounds_toArray, List.set_cons_zero, List.set_cons_succ])
  refine take_first (v := ?_) 14 rfl (by kernel_rfl) (by kernel_rfl) (by kernel_rfl) (fun _ _ _ h => h) (Or.inl ⟨by rfl, ?_⟩) (by assumption) ?_
  rotate_left
  · (intro w hSw; (try dsimp only at hSw); have fb := kind_at (Lows.blk hSw 1 rfl).all HOA.out; go_simp; try with_reducible rfl)
  (try simp only [Act.put, List.setIfInBounds_toArray, List.set_cons_zero, List.set_cons_succ])
  refine take_first (v := ?_) 15 rfl (by kernel_rfl) (by kernel_rfl) (by kernel_rfl) (fun _ _ _ h => h) (Or.inl ⟨by rfl, ?_⟩) (by assumption) ?_
  rotate_left
  · (intro w hSw; (try dsimp only at hSw); go_simp; try with_reducible rfl)
  (try simp only [Act.put, List.setIfInBounds_toArray, List.set_cons_zero, List.set_cons_succ])
  refine take_first (v := ?_) 16 rfl (by kernel_rfl) (by kernel_rfl) (by kernel_rfl) (fun _ _ _ h => h) (Or.inl ⟨by rfl, ?_⟩) (by assumption) ?_
  rotate_left
  · (intro w hSw; (try dsimp only at hSw); have fb := kind_at (Lows.blk hSw 0 rfl).all HOB.out; go_simp; try with_reducible rfl)
  (try simp only [Act.put, List.setIfInBounds_toArray, List.set_cons_zero, List.set_cons_succ])
  refine step_one 5 rfl (by kernel_rfl) (fun K hK => ?_)
  clear hHeld
  go_simp
  refine (cmp64_any a.tm b.tm _).mono ?_
  rintro e wy2 ⟨rfl, hb⟩
  replace HM := Lib.hid (show Lows w [blkL GB 27 b.cells, blkL GA 58 a.cells] wy2 from HM.out.below hb)
  clear hb
  go_wp2_with fail
  refine hK.out _ _ (HM.out) (fun hHeld => ?_)
  clear hK K
  (try simp only [Act.put, List.setIfInBounds_toArray, List.set_cons_zero, List.set_cons_succ])
  refine step_one 11 rfl (by kernel_rfl) (fun K hK => ?_)
  clear hHeld
  go_simp
  refine (compare_bel 32 32 32 32 _ _ _ _ a.peer b.peer _ (timer_rd (HM.out.blk 1 rfl) HOA.out) (timer_rd (HM.out.blk 0 rfl) HOB.out)).mono ?_
  rintro e wy3 ⟨rfl, hb⟩
  replace HM := Lib.hid (show Lows w [blkL GB 27 b.cells, blkL GA 58 a.cells] wy3 from HM.out.below hb)
  clear hb
  go_wp2_with fail
  refine hK.out _ _ (HM.out) (fun hHeld => ?_)
  clear hK K
  (try simp only [Act.put, List.setIfInBounds_toArray, List.set_cons_zero, List.set_cons_succ])
  refine step_one 17 rfl (by kernel_rfl) (fun K hK => ?_)
  clear hHeld
  go_simp
  refine (cmpI_any a.kind b.kind _).mono ?_
  rintro e wy4 ⟨rfl, hb⟩
  replace HM := Lib.hid (show Lows w [blkL GB 27 b.cells, blkL GA 58 a.cells] wy4 from HM.out.below hb)
  clear hb
  go_wp2_with fail
  refine hK.out _ _ (HM.out) (fun hHeld => ?_)
  clear hK K
  (try simp only [Act.put, List.setIfInBounds_toArray, List.set_cons_zero, List.set_cons_succ])
  refine step_one 18 rfl (by kernel_rfl) (fun K hK => ?_)
  clear hHeld
  go_simp
  have hm9 := HM.out.alloc 3 #[.int .i64 (cmpV a.tm b.tm), .int .i64 (Lib.compareBytes a.peer b.peer), .int .i64 (cmpV a.kind b.kind)] ([.int .i64 (cmpV a.tm b.tm), .int .i64 (Lib.compareBytes a.peer b.peer), .int .i64 (cmpV a.kind b.kind)]) rfl
  generalize wy4.alloc (.cells #[.int .i64 (cmpV a.tm b.tm), .int .i64 (Lib.compareBytes a.peer b.peer), .int .i64 (cmpV a.kind b.kind)] 3) = wy5 at hm9 ⊢
  generalize wy4.heap.size = G3 at hm9 ⊢
  replace HM := Lib.hid (show Lows w [blkL G3 3 ([.int .i64 (cmpV a.tm b.tm), .int .i64 (Lib.compareBytes a.peer b.peer), .int .i64 (cmpV a.kind b.kind)]), blkL GB 27 b.cells, blkL GA 58 a.cells] wy5 from hm9)
  clear hm9
  refine hK.out _ _ (HM.out.tail 0) (fun hHeld => ?_)
  clear hK K
  (try simp only [Act.put, List.setIfInBounds_toArray, List.set_cons_zero, List.set_cons_succ])
  refine wpAnyH_stronger (T := fun W' => Lows w [blkL G3 3 ([.int .i64 (cmpV a.tm b.tm), .int .i64 (Lib.compareBytes a.peer b.peer), .int .i64 (cmpV a.kind b.kind)]), blkL GB 27 b.cells, blkL GA 58 a.cells] W') (fun _ h' => (h'.tail 0)) _ _ _ _ ?_
  replace hHeld := HM.out
  refine step_one 19 rfl (by kernel_rfl) (fun K hK => ?_)
  clear hHeld
  go_simp
  refine (cmpOr_any G3 3 3 (by omega) [cmpV a.tm b.tm, Lib.compareBytes a.peer b.peer, cmpV a.kind b.kind] rfl 3 _ (HM.out.blk 0 rfl)).mono ?_
  rintro e wy6 ⟨rfl, hb⟩
  replace HM := Lib.hid (show Lows w [blkL G3 3 ([.int .i64 (cmpV a.tm b.tm), .int .i64 (Lib.compareBytes a.peer b.peer), .int .i64 (cmpV a.kind b.kind)]), blkL GB 27 b.cells, blkL GA 58 a.cells] wy6 from HM.out.below hb)
  clear hb
  go_wp2_with fail
  refine hK.out _ _ (HM.out) (fun hHeld => ?_)
  clear hK K
  (try simp only [Act.put, List.setIfInBounds_toArray, List.set_cons_zero, List.set_cons_succ])
  refine take_first (v := ?_) 20 rfl (by kernel_rfl) (by kernel_rfl) (by kernel_rfl) (fun _ _ _ h => h) (Or.inl ⟨by rfl, ?_⟩) (by assumption) ?_
  rotate_left
  · (intro w hSw; (try dsimp only at hSw); go_simp; try with_reducible rfl)
  (try simp only [Act.put, List.setIfInBounds_toArray, List.set_cons_zero, List.set_cons_succ])
  refine take_first (v := ?_) 21 rfl (by kernel_rfl) (by kernel_rfl) (by kernel_rfl) (fun _ _ _ h => h) (Or.inl ⟨by rfl, ?_⟩) (by assumption) ?_
  rotate_left
  · (intro w hSw; (try dsimp only at hSw); go_simp; try with_reducible rfl)
  (try simp only [Act.put, List.setIfInBounds_toArray, List.set_cons_zero, List.set_cons_succ])
  refine wpAnyH_done (by kernel_rfl) ?_ _
  clear hHeld
  have HF := Lib.hid HM.out.bel
  clear HM
  go_wp2
  go_ret
  exact ⟨by have h := HR.out; simp at h ⊢; exact h, HF.out⟩
theorem timer_built (t : TimerM) (h : t.ok) : Try.prog.built 58 [(0, .agg t.cells.toArray)] = some t.cells.toArray := by
  rw [built_of 58 [34] [timerZ] (by kernel_rfl) #[(0, 34)] (fun parts => by kernel_rfl) (fun i h => by
    match i, h with
    | 0, _ => rfl
    | i + 1, h => exact absurd h (by simp)) _ (fun p hp => by
    simp only [List.mem_cons, List.not_mem_nil, or_false] at hp
    subst hp
    simp [Value.cells, TimerM.cells_length h])]
  simp [Value.cells]
set_option maxRecDepth 100000 in
set_option maxHeartbeats 8000000 in
theorem whLessC : WhLessC 21 := by
  intro a b w ha hb
  have hbt := timer_built a ha
  have hbf := fun W => whBefore_any a b W ha hb
  obtain ⟨ca, hca⟩ : ∃ x, a.cells.toArray = x := ⟨_, rfl⟩
  obtain ⟨cb, hcb⟩ : ∃ x, b.cells.toArray = x := ⟨_, rfl⟩
  rw [hca] at hbt
  simp only [hca, hcb] at hbf
  rw [hca, hcb]
  have hm := ((Lows.nil w).alloc 27 ca a.cells hca.symm).alloc 27 cb b.cells hcb.symm
  have HM := Lib.hid (show Lows w [blkL (w.heap.size + 1) 27 b.cells, blkL w.heap.size 27 a.cells] ((w.alloc (.cells ca 27)).alloc (.cells cb 27)) from by simpa using hm)
  have HOA := Lib.hid ha
  have HOB := Lib.hid hb
  have HBT := Lib.hid hbt
  have HBF := Lib.hid hbf
  have HCA := Lib.hid hca
  have HCB := Lib.hid hcb
  clear hca hcb ha hb hm hbt hbf
  go_enter Try.func21, Try.ntmps21
  go_upto_region 1 with fail
  generalize (w.alloc (.cells ca 27)).alloc (.cells cb 27) = w1 at HM ⊢
  go_wp2_with (first | (refine wpList_load_obj rfl 27 (.tmp 2) rfl w.heap.size 0 rfl a.cells (HM.out.blk 1 rfl).all _ Try.underlying27 rfl (timer_cellsOf a HOA.out) ?_; rw [HCA.out]) | (refine wpList_build_as rfl 58 [(0, .tmp 5)] rfl ca ?_ ?_; exact HBT.out) | (refine wpList_load_obj rfl 27 (.tmp 3) rfl (w.heap.size + 1) 0 rfl b.cells (HM.out.blk 0 rfl).all _ Try.underlying27 rfl (timer_cellsOf b HOB.out) ?_; rw [HCB.out]))
  refine (HBF.out _).mono ?_
  rintro e w2 ⟨rfl, hb⟩
  have HF := Lib.hid (HM.out.below hb).bel
  clear hb HM HBF
  go_wp2
  go_ret
  exact ⟨rfl, HF.out⟩
end Go.Proofs.Ytffeecaidkeepaa
namespace Go.Proofs.Ytffeecaidkeepaa
open Go.RowKit

/-- a purpose as cells -/
def purC (k : List UInt8) (d : Int) : List Value := k.map u8v ++ [.int .i64 d]
theorem purC_length {k : List UInt8} (h : k.length = 32) (d : Int) : (purC k d).length = 33 := by rw [purC, List.length_append, List.length_map, h]; rfl
theorem pur_cellsOf {k : List UInt8} (h : k.length = 32) (d : Int) : (Try.prog.info? 60).map (·.size) = some (purC k d).length := by
  rw [purC_length h]; kernel_rfl
theorem pur_one (k : List UInt8) (d : Int) : ∀ v ∈ purC k d, v.oneCell' = true := by
  intro v hv
  rw [purC] at hv
  simp only [List.mem_append, List.mem_map, List.mem_cons, List.not_mem_nil, or_false] at hv
  rcases hv with ⟨x, _, rfl⟩ | rfl <;> rfl
def purZ : List Value := purC (List.replicate 32 0) 0
theorem pur_built {k : List UInt8} (h : k.length = 32) (d : Int) : Try.prog.built 60 [(0, .agg (k.map u8v).toArray), (1, .int .i64 d)] = some (purC k d).toArray := by
  rw [built_of 60 [32, 1] [aeZ 32, [.int .i64 0]] (by kernel_rfl) #[(0, 32), (32, 1)] (fun parts => by kernel_rfl) (fun i h => by
    match i, h with
    | 0, _ => rfl
    | 1, _ => rfl
    | i + 2, h => exact absurd h (by simp)) _ (fun p hp => by
    simp only [List.mem_cons, List.not_mem_nil, or_false] at hp
    rcases hp with rfl | rfl
    · simp [Value.cells, h]
    · rfl)]
  simp [purC, Value.cells]
theorem pur_inj {k l : List UInt8} {d e : Int} (hk : k.length = 32) (hl : l.length = 32) : purC k d = purC l e ↔ (k = l ∧ d = e) := by
  refine ⟨fun h => ?_, fun h => by rw [h.1, h.2]⟩
  have h3 := List.append_inj h (by rw [List.length_map, List.length_map, hk, hl])
  have h4 := u8v_inj.1 h3.1
  have h5 := h3.2
  simp only [List.cons.injEq, Value.int.injEq, true_and, and_true] at h5
  exact ⟨h4, h5⟩
theorem pur_lits (k : List UInt8) (d : Int) (h : k.length = 32) (hd : inI64 d) : LitsAt Try.prog 5 60 (purC k d) := by
  refine lits_struct Try.underlying60 (purC k d) ?_ (by simp) ?_
  · rw [purC_length h]; kernel_rfl
  · intro f hf
    simp only [List.mem_cons, List.not_mem_nil, or_false] at hf
    rcases hf with rfl | rfl
    · have e : ((purC k d).drop 0).take (Try.prog.cellsOf 25) = k.map u8v := by
        rw [show Try.prog.cellsOf 25 = 32 by kernel_rfl, purC, List.drop_zero, List.take_left' (by rw [List.length_map, h])]
      exact e ▸ key_lits 2 k h
    · have e : ((purC k d).drop 32).take (Try.prog.cellsOf 3) = [.int .i64 d] := by
        rw [show Try.prog.cellsOf 3 = 1 by kernel_rfl, purC, List.drop_left' (by rw [List.length_map, h])]
        rfl
      unfold inI64 at hd
      exact e ▸ lits_int Try.underlying3 _ ⟨by simp [IntKind.min, IntKind.signed, IntKind.bits]; omega, by simp [IntKind.max, IntKind.signed, IntKind.bits]; omega⟩
theorem pur_eqd (k l : List UInt8) (d e : Int) (hk : k.length = 32) (hl : l.length = 32) (hd : inI64 d) (he : inI64 e) (w : World) : (Op.equalIn 10000 60 (.agg (purC k d).toArray) (.agg (purC l e).toArray)).run Try.prog w = .ok (decide (k = l) && decide (d = e)) w :=
  eq_obj 8 5 60 (by omega) (by kernel_rfl) (by kernel_rfl) (purC k d) (purC l e) (pur_lits k d hk hd) (pur_lits l e hl he) _ Try.underlying60 rfl (by rw [purC_length hk]; kernel_rfl) (by rw [purC_length hl]; kernel_rfl) _ (by rw [Bool.and_eq_true, decide_eq_true_iff, decide_eq_true_iff, pur_inj hk hl]) w
theorem pur_noguard : Try.prog.eqGuardType Try.prog.depth 60 = false := by kernel_rfl
set_option maxRecDepth 100000 in
set_option maxHeartbeats 8000000 in
theorem whPurpose_any (t : TimerM) (ht : t.ok) (w : World) : Calls Try.prog 34 #[.agg t.cells.toArray] w fun e w' => e = .returned (.agg (purC t.peer t.kind).toArray) ∧ Below w.heap.size w w' := by
  have hpb := pur_built ht.2.1 t.kind
  obtain ⟨ct, hct⟩ : ∃ z, t.cells.toArray = z := ⟨_, rfl⟩
  obtain ⟨ck, hck⟩ : ∃ z, (t.peer.map u8v).toArray = z := ⟨_, rfl⟩
  obtain ⟨cp, hcp⟩ : ∃ z, (purC t.peer t.kind).toArray = z := ⟨_, rfl⟩
  rw [hck, hcp] at hpb
  rw [hct]
  have hm := ((Mem.nil w).alloc rfl 58 ct t.cells hct.symm).alloc (g := w.heap.size + 1) (by simp) 60 #[.int .u8 0, .int .u8 0, .int .u8 0, .int .u8 0, .int .u8 0, .int .u8 0, .int .u8 0, .int .u8 0, .int .u8 0, .int .u8 0, .int .u8 0, .int .u8 0, .int .u8 0, .int .u8 0, .int .u8 0, .int .u8 0, .int .u8 0, .int .u8 0, .int .u8 0, .int .u8 0, .int .u8 0, .int .u8 0, .int .u8 0, .int .u8 0, .int .u8 0, .int .u8 0, .int .u8 0, .int .u8 0, .int .u8 0, .int .u8 0, .int .u8 0, .int .u8 0, .int .i64 0] purZ rfl
  have HM := Lib.hid (show Mem w [blkE (w.heap.size + 1) 60 purZ, blkE w.heap.size 58 t.cells] ((w.alloc (.cells ct 58)).alloc (.cells #[.int .u8 0, .int .u8 0, .int .u8 0, .int .u8 0, .int .u8 0, .int .u8 0, .int .u8 0, .int .u8 0, .int .u8 0, .int .u8 0, .int .u8 0, .int .u8 0, .int .u8 0, .int .u8 0, .int .u8 0, .int .u8 0, .int .u8 0, .int .u8 0, .int .u8 0, .int .u8 0, .int .u8 0, .int .u8 0, .int .u8 0, .int .u8 0, .int .u8 0, .int .u8 0, .int .u8 0, .int .u8 0, .int .u8 0, .int .u8 0, .int .u8 0, .int .u8 0, .int .i64 0] 60)) from hm)
  have HOT := Lib.hid ht
  have HPB := Lib.hid hpb
  have HCK := Lib.hid hck
  have HCP := Lib.hid hcp
  clear hct hck hm ht hpb
  go_enter Try.func34, Try.ntmps34
  go_upto_region 1 with fail
  generalize (w.alloc (.cells ct 58)).alloc (.cells #[.int .u8 0, .int .u8 0, .int .u8 0, .int .u8 0, .int .u8 0, .int .u8 0, .int .u8 0, .int .u8 0, .int .u8 0, .int .u8 0, .int .u8 0, .int .u8 0, .int .u8 0, .int .u8 0, .int .u8 0, .int .u8 0, .int .u8 0, .int .u8 0, .int .u8 0, .int .u8 0, .int .u8 0, .int .u8 0, .int .u8 0, .int .u8 0, .int .u8 0, .int .u8 0, .int .u8 0, .int .u8 0, .int .u8 0, .int .u8 0, .int .u8 0, .int .u8 0, .int .i64 0] 60) = w1 at HM ⊢
  have fk := kind_at (HM.out.blk 1 rfl).all HOT.out
  have HKL := Lib.hid (key_cellsOf t.peer HOT.out.2.1)
  obtain ⟨kd, hkd⟩ : ∃ z, t.kind = z := ⟨_, rfl⟩
  rw [hkd] at fk HPB hcp
  have HKD := Lib.hid hkd
  clear hkd hcp
  go_wp2_with (first | (refine wpList_load_obj rfl 25 (.tmp 4) rfl w.heap.size 1 rfl (t.peer.map u8v) (peer_at (HM.out.blk 1 rfl).all) _ Try.underlying25 rfl HKL.out ?_; rw [HCK.out]) | (refine wpList_build_as rfl 60 [(0, .tmp 5), (1, .tmp 8)] rfl cp ?_ ?_; exact HPB.out) | (refine wpList_store_obj rfl 60 (.tmp 2) (.tmp 9) rfl (w.heap.size + 1) 0 (purC t.peer t.kind) rfl (by show Value.agg cp = _; rw [HCP.out]) 60 purZ (HM.out.blk 0 rfl) (pur_cellsOf HOT.out.2.1 _) (by rw [purC_length HOT.out.2.1]; decide) (pur_one _ _) ?_; intro w9 hb9 hg9))
  rw [setL_all _ _ (by rw [purC_length HOT.out.2.1]; rfl)] at hb9
  exact bodyPost_ret (results_obj rfl _ _ (w.heap.size + 1) 60 (purC t.peer t.kind) _ rfl hb9 Try.underlying60 rfl (pur_cellsOf HOT.out.2.1 _)) rfl ⟨rfl, HM.out.bel.grown hg9 HM.out.bel.size (fun k hk => by injection hk with hk; omega)⟩
end Go.Proofs.Ytffeecaidkeepaa
namespace Go.Proofs.Ytffeecaidkeepaa
open Go.RowKit

set_option maxRecDepth 100000 in
set_option maxHeartbeats 16000000 in
theorem tmIdx_any (A : Option Addr) (n c : Nat) (os : List (List Value)) (hn : n ≤ 1000000) (F : Nat) (lb : Array Value) (hE : ∀ (args : Array Value) (W : World), (callFunc F args).run Try.prog W = .ok (.enter F args) W) (p : List Value → Bool) (B : Nat) (w : World) (hB : B ≤ w.heap.size) (hr : RdRow w w.heap.size A 34 n os) (hf : PredB Try.prog F lb p B w os) :
    Calls Try.prog 39 #[.slice A n c, .func (.func F) #[] lb] w fun e w' => e = .returned (.int .i64 (idxM p os)) ∧ Below w.heap.size w w' := by
  have HR := Lib.hid hr
  have HF := Lib.hid hf
  have HB := Lib.hid hB
  clear hr hf hB
  go_enter Try.func39, Try.ntmps39
  go_wp2_with fail
  go_loopw [8] (fun i wr => ∃ j : Nat, j ≤ n ∧ i = .int .i64 (j : Int) ∧ Below w.heap.size w wr ∧ ∀ (q : Nat) x, q < j → os[q]? = some x → p x = false) (fun i _ => n - (intOf i).toNat)
  case atStart => exact ⟨0, Nat.zero_le _, rfl, Below.refl _ _, fun q _ h => absurd h (Nat.not_lt_zero _)⟩
  case round =>
    obtain ⟨j, hj, rfl, hW, hno⟩ := hrel
    have HW := Lib.hid hW
    have HNO := Lib.hid hno
    clear hW hno
    by_cases hjn : j < n
    · have d1 : decide ((j : Int) < (n : Int)) = true := by simp; omega
      obtain ⟨b, off, rfl⟩ := HR.out.addr (by omega)
      obtain ⟨o, ho⟩ : ∃ o, os[j]? = some o := ⟨os[j]'(by rw [HR.out.1]; exact hjn), List.getElem?_eq_getElem _⟩
      have hat := HR.out.at j o ho
      have HLA := Lib.hid (show At wr b (off + j * 34) o from fun q v hv => (World.cell?_of_block (HW.out.block b hat.1)).trans (hat.2 q v hv))
      have HU := Lib.hid (tm_size o (HR.out.2.1 o (List.mem_of_getElem? ho)))
      have hcall := HF.out o (List.mem_of_getElem? ho) wr (HW.out.mono HB.out)
      obtain ⟨oc, hoc⟩ : ∃ z, o.toArray = z := ⟨_, rfl⟩
      rw [hoc] at hcall
      obtain ⟨y, hy⟩ : ∃ y, p o = y := ⟨_, rfl⟩
      rw [hy] at hcall
      have HOC := Lib.hid hoc
      have HC := Lib.hid hcall
      have HJO := Lib.hid (And.intro ho hy)
      clear hat ho hcall hoc hy
      go_wp2_with (first | (refine wpList_load_obj rfl 27 (.tmp 14) rfl b _ rfl o HLA.out _ Try.underlying27 rfl HU.out ?_; rw [HOC.out]))
      refine HC.out.mono ?_
      rintro e w2 ⟨rfl, hb⟩
      have HW2 := Lib.hid (HW.out.trans (hb.mono HW.out.size))
      clear hb HW HC HLA
      cases y with
      | true =>
        go_wp2
        go_ret
        exact ⟨by rw [idxM_some HJO.out.1 HJO.out.2 HNO.out]; rfl, HW2.out⟩
      | false =>
        go_wp2_with fail
        go_roundw
        case rel => exact ⟨j + 1, by omega, by go_num, HW2.out, fun q x hq hx => by
          rcases Nat.lt_or_ge q j with h | h
          · exact HNO.out q x h hx
          · obtain rfl : q = j := by omega
            have e := HJO.out.1.symm.trans hx
            injection e with e
            rw [← e]
            exact HJO.out.2⟩
        case measure => simp [intOf]; omega
    · obtain rfl : j = n := by omega
      have d1 : decide ((j : Int) < (j : Int)) = false := by simp
      have HF2 := Lib.hid HW.out
      have HX := Lib.hid (idxM_none (all_false HR.out.1 HNO.out))
      clear HW HNO
      go_wp2
      go_ret
      exact ⟨by rw [HX.out]; rfl, HF2.out⟩
end Go.Proofs.Ytffeecaidkeepaa
