/-
  The contracts of the choices that the statements are made of: Addr, Prefix. The contracts of the choices that the statements are made of: Big, Endpoint. Equality of two structs, as an operation. An address is found equal to itself. What is asked of the functions of layer 13 that read and write addresses, endpoints and prefixes, by a function's number. An endpoint and a prefix with a number of their own are found equal to themselves. The contract of the reference's ParseEndpoint. Equality of two structs under a guard, as an operation. reads of the law of addresses finds the program and the reference at one. The contract of an address that the statements are made of: Host. No statement is proved here.
-/
import Derived.Laws.Bits64
import Derived.Laws.BitsAllLaws
import Derived.Test.YtkhghmmgegkiiaaGreatDoorConfigAddressesB4
namespace Go.Proofs.YtkhghmmgegkiiaaGreatDoor
open Go.RowKit

theorem MemE.join {b m : Nat} : ∀ {E2 E : List Ent} {top : Nat} {W : World}, MemE m E2 top W → MemE b E m W → MemE b (E2 ++ E) top W
  | [], _, _, _, h, k => MemE.keep k h (fun _ _ _ => rfl)
  | _ :: _, _, _, _, h, k => ⟨h.1, h.2.1, h.2.2.1, MemE.join h.2.2.2 k⟩
theorem MemG.join {w0 W W' : World} {g : Nat} {E E2 : List Ent} (h : MemG w0 g E W) (hg : g < w0.heap.size) (k : MemG W g E2 W') : MemG w0 g (E2 ++ E) W' :=
  ⟨MemE.join k.1 (h.1.keep (Nat.le_refl _) (fun q h1 hq => k.2.block q hq (fun e => by injection e with e; omega))), grownBy_trans h.2 k.2⟩
/-- the choices at a world: p of them taken -/
structure CodesAt (W : World) (g : Nat) (A : Option Addr) (n c : Nat) (l : List UInt8) (B : Nat) (p : Nat) : Prop where
  blk : Blk W g 71 (codesC A n c p)
  rd : Rd W B A n l
  le : B ≤ g
  lt : g < W.heap.size
  small : n ≤ 100000
  pos : p ≤ n
section
variable {W W' : World} {g : Nat} {A : Option Addr} {n c : Nat} {l : List UInt8} {B p : Nat}
theorem CodesAt.below (h : CodesAt W g A n c l B p) (hb : Below W.heap.size W W') : CodesAt W' g A n c l B p :=
  ⟨h.blk.below hb h.lt, h.rd.below2 (by have := h.le; have := h.lt; omega) hb, h.le, Nat.lt_of_lt_of_le h.lt hb.size, h.small, h.pos⟩
theorem CodesAt.put (h : CodesAt W g A n c l B p) {b : Nat} (hg : W.grownBy W' (some b)) (hb : g < b) : CodesAt W' g A n c l B p :=
  ⟨h.blk.grown hg (fun e => by injection e with e; omega), h.rd.keep (fun q hq => World.cell?_of_block (hg.block q.block (by have := h.le; have := h.lt; omega) (fun e => by injection e with e; have := h.le; omega))), h.le, Nat.lt_of_lt_of_le h.lt hg.size, h.small, h.pos⟩
theorem CodesAt.next (h : CodesAt W g A n c l B p) {q : Nat} (hq : q ≤ n) (hb : Blk W' g 71 (codesC A n c q)) (hg : W.grownBy W' (some g)) : CodesAt W' g A n c l B q :=
  ⟨hb, h.rd.kept h.le h.lt hg, h.le, Nat.lt_of_lt_of_le h.lt hg.size, h.small, hq⟩
theorem CodesAt.nextLe (h : CodesAt W g A n c l B p) (m : Nat) : nextP l p m ≤ n := by have := nextP_le l p m (by rw [h.rd.1]; exact h.pos); rw [h.rd.1] at this; exact this
theorem CodesAt.callNext (h : CodesAt W g A n c l B p) (m : Nat) (hm : m ≤ 1000000) :
    Calls Tryz.prog 34 #[.pointer (some ⟨g, 0, none⟩), .int .i64 (m : Int)] W fun e w' => e = .returned (.int .i64 (nextV l p m : Int)) ∧ CodesAt w' g A n c l B (nextP l p m) ∧ W.grownBy w' (some g) :=
  (caseNext_any g A n c l p h.small h.pos m hm B h.le W h.blk h.rd).mono fun _ _ k => ⟨k.1, h.next (h.nextLe m) k.2.1 k.2.2, k.2.2⟩
theorem CodesAt.callBytes (h : CodesAt W g A n c l B p) (m : Nat) (hm : m ≤ 1000) :
    Calls Tryz.prog 35 #[.pointer (some ⟨g, 0, none⟩), .int .i64 (m : Int)] W fun e w' => e = .returned (.slice (some ⟨W.heap.size, 0, none⟩) m m) ∧ CodesAt w' g A n c l B (nextP l p 256) ∧ MemG W g [blkE W.heap.size 5 ((pickB l p m).map u8v)] w' :=
  (caseBytes_any g A n c l p h.small h.pos m hm B h.le W h.blk h.rd).mono fun _ _ k => ⟨k.1, h.next (h.nextLe 256) k.2.1 k.2.2.2, k.2.2⟩
end
/-- an address of choices -/
def sixV (l : List UInt8) (p : Nat) : Bool := nextV l p 3 == 1
def fourB (l : List UInt8) (p : Nat) : List UInt8 := [10, UInt8.ofNat (nextV l p 4), UInt8.ofNat (nextV l (nextP l p 4) 4), UInt8.ofNat (nextV l (nextP l (nextP l p 4) 4) 256)]
def codeA (l : List UInt8) (p : Nat) : AddrM := ⟨sixV l p, if sixV l p then (pickB l (nextP l p 3) 16).set 0 253 else putL (List.replicate 16 0) 0 (fourB l (nextP l p 3))⟩
def codeAP (l : List UInt8) (p : Nat) : Nat := if sixV l p then nextP l (nextP l p 3) 256 else nextP l (nextP l (nextP l (nextP l p 3) 4) 4) 256
theorem codeA_ok (l : List UInt8) (p : Nat) : (codeA l p).ok := by
  unfold AddrM.ok codeA
  dsimp only
  split
  · rw [List.length_set, pickB_length]
  · rfl
theorem addr_put16 (b : Bool) (l : List UInt8) (h : l.length = 16) : setL (.bool b :: (List.replicate 16 (0 : UInt8)).map u8v) 1 (l.map u8v) = (AddrM.mk b l).cells := by
  rw [addr_put, AddrM.cells, putL, List.take_zero, List.nil_append, List.drop_of_length_le (by simp [h]), List.append_nil]
set_option maxRecDepth 100000 in
set_option maxHeartbeats 4000000 in
theorem caseAddr_any (g : Nat) (A : Option Addr) (n c : Nat) (l : List UInt8) (B : Nat) (p : Nat) (w : World) (hc : CodesAt w g A n c l B p) :
    Calls Tryz.prog 9 #[.pointer (some ⟨g, 0, none⟩)] w fun e w' => e = .returned (.agg (codeA l p).cells.toArray) ∧ CodesAt w' g A n c l B (codeAP l p) ∧ w.grownBy w' (some g) := by
  have hgl := hc.lt
  have HM := Lib.hid (show MemG w g [blkE w.heap.size 25 addr0.cells] (w.alloc (.cells #[.bool false, .int .u8 0, .int .u8 0, .int .u8 0, .int .u8 0, .int .u8 0, .int .u8 0, .int .u8 0, .int .u8 0, .int .u8 0, .int .u8 0, .int .u8 0, .int .u8 0, .int .u8 0, .int .u8 0, .int .u8 0, .int .u8 0] 25)) from (MemG.nil w g).alloc rfl 25 #[.bool false, .int .u8 0, .int .u8 0, .int .u8 0, .int .u8 0, .int .u8 0, .int .u8 0, .int .u8 0, .int .u8 0, .int .u8 0, .int .u8 0, .int .u8 0, .int .u8 0, .int .u8 0, .int .u8 0, .int .u8 0, .int .u8 0] addr0.cells rfl)
  have HC := Lib.hid (hc.below ((Below.refl _ _).alloc (Nat.le_refl _) (.cells #[.bool false, .int .u8 0, .int .u8 0, .int .u8 0, .int .u8 0, .int .u8 0, .int .u8 0, .int .u8 0, .int .u8 0, .int .u8 0, .int .u8 0, .int .u8 0, .int .u8 0, .int .u8 0, .int .u8 0, .int .u8 0, .int .u8 0] 25)))
  have HAO := Lib.hid (codeA_ok l p)
  have HCA := Lib.hid (show codeA l p = _ ∧ codeAP l p = _ from ⟨rfl, rfl⟩)
  clear hc
  go_enter Tryz.func9, Tryz.ntmps9
  go_upto_region 1 with fail
  generalize w.alloc (.cells #[.bool false, .int .u8 0, .int .u8 0, .int .u8 0, .int .u8 0, .int .u8 0, .int .u8 0, .int .u8 0, .int .u8 0, .int .u8 0, .int .u8 0, .int .u8 0, .int .u8 0, .int .u8 0, .int .u8 0, .int .u8 0, .int .u8 0] 25) = w1 at HM HC ⊢
  go_wp2_with fail
  refine (HC.out.callNext 3 (by omega)).mono ?_
  rintro e w2 ⟨rfl, hc2, hg2⟩
  have hsx : ((nextV l p 3 : Int) == 1) = sixV l p := by rw [sixV, Bool.eq_iff_iff, beq_iff_eq, beq_iff_eq]; omega
  replace HM := Lib.hid (HM.out.next hgl hg2)
  have HC := Lib.hid hc2
  clear hc2 hg2
  have HA := Lib.hid (show MemG w g [blkE w2.heap.size 25 addr0.cells, blkE w.heap.size 25 addr0.cells] (w2.alloc (.cells #[.bool false, .int .u8 0, .int .u8 0, .int .u8 0, .int .u8 0, .int .u8 0, .int .u8 0, .int .u8 0, .int .u8 0, .int .u8 0, .int .u8 0, .int .u8 0, .int .u8 0, .int .u8 0, .int .u8 0, .int .u8 0, .int .u8 0] 25)) from HM.out.alloc rfl 25 #[.bool false, .int .u8 0, .int .u8 0, .int .u8 0, .int .u8 0, .int .u8 0, .int .u8 0, .int .u8 0, .int .u8 0, .int .u8 0, .int .u8 0, .int .u8 0, .int .u8 0, .int .u8 0, .int .u8 0, .int .u8 0, .int .u8 0] addr0.cells rfl)
  have HC3 := Lib.hid (HC.out.below ((Below.refl _ _).alloc (Nat.le_refl _) (.cells #[.bool false, .int .u8 0, .int .u8 0, .int .u8 0, .int .u8 0, .int .u8 0, .int .u8 0, .int .u8 0, .int .u8 0, .int .u8 0, .int .u8 0, .int .u8 0, .int .u8 0, .int .u8 0, .int .u8 0, .int .u8 0, .int .u8 0] 25)))
  have hP3 := HC.out.lt
  obtain ⟨sx, hsxe⟩ : ∃ q, sixV l p = q := ⟨_, rfl⟩
  rw [hsxe] at hsx
  have HSX := Lib.hid hsxe
  clear hsxe
  go_upto_region 2 with (refine wpList_store_blk rfl 25 (.tmp 3) (.tmp 7) rfl w2.heap.size (.bool sx :: (List.replicate 16 (0 : UInt8)).map u8v) rfl rfl 25 addr0.cells (HA.out.blk 0 rfl) (by kernel_rfl) rfl (addr_one sx _) ?_; intro w3 hb hg)
  clear hsx
  (try simp only [Act.put])
  replace HM := Lib.hid (show MemG w g [blkE w2.heap.size 25 (.bool sx :: (List.replicate 16 (0 : UInt8)).map u8v), blkE w.heap.size 25 addr0.cells] w3 from HA.out.put 0 rfl _ hg hb)
  replace HC := Lib.hid (HC3.out.put hg hP3)
  clear HA HC3 hb hg
  have HPG := Lib.hid hP3
  clear hP3
  generalize w2.heap.size = P3 at HM HPG ⊢
  have f6 := (HM.out.blk 0 rfl).cell 0
  rw [show (.bool sx :: (List.replicate 16 (0 : UInt8)).map u8v : List Value)[0]? = some (.bool sx) from rfl] at f6
  cases sx with
  | true =>
    have HR := Lib.hid (show (AddrM.mk true ((pickB l (nextP l p 3) 16).set 0 253)) = codeA l p ∧ nextP l (nextP l p 3) 256 = codeAP l p from by rw [codeA, codeAP, HSX.out]; exact ⟨rfl, rfl⟩)
    have HBL := Lib.hid (pickB_length l (nextP l p 3) 16)
    have HPUT := Lib.hid (addr_put16 true (pickB l (nextP l p 3) 16) HBL.out)
    go_upto_region 3 with fail
    clear f6
    refine wp_region_held_drew (S := fun _ => True) (by kernel_rfl) (trivial) (fun hHeld => ?_)
    replace HM := Lib.hid HM.out.drew
    replace HC := Lib.hid (HC.out.below ((Below.refl _ _).drew))
    generalize w3.drew = wd1 at HM HC hHeld ⊢
    refine take_first (v := ?_) 0 rfl (by kernel_rfl) (by kernel_rfl) (by kernel_rfl) (fun _ _ _ h => h) (Or.inl ⟨by rfl, ?_⟩) (by assumption) ?_
    rotate_left
    · (intro w hSw; (try dsimp only at hSw); go_simp; try with_reducible rfl)
    (try simp only [Act.put, List.setIfInBounds_toArray, List.set_cons_zero, List.set_cons_succ])
    refine take_first (v := ?_) 1 rfl (by kernel_rfl) (by kernel_rfl) (by kernel_rfl) (fun _ _ _ h => h) (Or.inl ⟨by rfl, ?_⟩) (by assumption) ?_
    rotate_left
    · (intro w hSw; (try dsimp only at hSw); go_simp; try with_reducible rfl)
    (try simp only [Act.put, List.setIfInBounds_toArray, List.set_cons_zero, List.set_cons_succ])
    refine take_first (v := ?_) 2 rfl (by kernel_rfl) (by kernel_rfl) (by kernel_rfl) (fun _ _ _ h => h) (Or.inl ⟨by rfl, ?_⟩) (by assumption) ?_
    rotate_left
    · (intro w hSw; (try dsimp only at hSw); go_simp; try with_reducible rfl)
    (try simp only [Act.put, List.setIfInBounds_toArray, List.set_cons_zero, List.set_cons_succ])
    refine step_one 3 rfl (by kernel_rfl) (fun K hK => ?_)
    clear hHeld
    go_simp
    refine (HC.out.callBytes 16 (by omega)).mono ?_
    rintro e wy2 ⟨rfl, hc2, hm2⟩
    replace HM := Lib.hid (show MemG w g [blkE wd1.heap.size 5 ((pickB l (nextP l p 3) 16).map u8v), blkE P3 25 (.bool true :: (List.replicate 16 (0 : UInt8)).map u8v), blkE w.heap.size 25 addr0.cells] wy2 from HM.out.join hgl hm2)
    replace HC := Lib.hid hc2
    clear hc2 hm2
    generalize wd1.heap.size = PB at HM ⊢
    go_wp2_with fail
    refine hK.out _ _ (trivial) (fun hHeld => ?_)
    clear hK K
    (try simp only [Act.put, List.setIfInBounds_toArray, List.set_cons_zero, List.set_cons_succ])
    refine step_one 4 rfl (by kernel_rfl) (fun K hK => ?_)
    clear hHeld
    refine step_copy_bytes _ rfl (.tmp 11) (.tmp 13) 22 22 (by rfl) 5 Tryz.underlying22 (by kernel_rfl) P3 1 16 16 ⟨PB, 0, none⟩ 16 16 (by rfl) (by rfl) (.bool true :: (List.replicate 16 (0 : UInt8)).map u8v) 25 (HM.out.blk 1 rfl) ((pickB l (nextP l p 3) 16).map u8v) (by rw [List.length_map, HBL.out]; rfl) (fun q v hv => by rw [Go.WideShapes.add_plain]; exact (HM.out.blk 0 rfl).all q v hv) (by rw [List.length_map, HBL.out]; simp) (u8v_one _) ?_
    intro wy3 hb hg
    replace hb : Blk wy3 P3 25 (AddrM.mk true (pickB l (nextP l p 3) 16)).cells := by rw [← HPUT.out]; exact hb
    replace HM := Lib.hid (show MemG w g [blkE PB 5 ((pickB l (nextP l p 3) 16).map u8v), blkE P3 25 (AddrM.mk true (pickB l (nextP l p 3) 16)).cells, blkE w.heap.size 25 addr0.cells] wy3 from HM.out.put 1 rfl _ hg hb)
    replace HC := Lib.hid (HC.out.put hg HPG.out)
    clear hb hg
    refine hK.out _ _ (trivial) (fun hHeld => ?_)
    clear hK K
    (try simp only [Act.put, List.setIfInBounds_toArray, List.set_cons_zero, List.set_cons_succ])
    refine wpAnyH_done (by kernel_rfl) ?_ _
    clear hHeld
    revert wy3
    intro wq HM HC
    have HOK := Lib.hid (show (AddrM.mk true (pickB l (nextP l p 3) 16)).ok from HBL.out)
    have fx := ((HM.out.blk 1 rfl).cell (1 + 0)).trans (AddrM.ip_cell _ HOK.out 0 (by omega))
    have zx := (HM.out.blk 1 rfl).frozen (1 + 0)
    generalize ((AddrM.mk true (pickB l (nextP l p 3) 16)).ip.getD 0 0) = x0 at fx
    have HN := Lib.hid (show MemG w g [blkE PB 5 ((pickB l (nextP l p 3) 16).map u8v), blkE P3 25 (AddrM.mk true ((pickB l (nextP l p 3) 16).set 0 253)).cells, blkE w.heap.size 25 addr0.cells] (wq.setCell ⟨P3, 1 + 0, none⟩ (.int .u8 253)) from by have h := HM.out.setCell 1 rfl (1 + 0) (u8v 253); rw [AddrM.set_cell] at h; exact h)
    replace HC := Lib.hid (show CodesAt (wq.setCell ⟨P3, 1 + 0, none⟩ (.int .u8 253)) g A n c l B (nextP l (nextP l p 3) 256) from HC.out.put (W' := wq.setCell ⟨P3, 1 + 0, none⟩ (.int .u8 253)) (b := P3) ⟨rfl, rfl, rfl, by simp [World.setCell], fun k _ hne => Below.heap_setCell _ _ _ _ (fun e => hne (by rw [e]))⟩ HPG.out)
    rw [Nat.add_zero] at fx zx HN HC
    clear HM
    go_upto_region 5 with fail
    generalize wq.setCell ⟨P3, 1, none⟩ (.int .u8 253) = w5 at HN HC ⊢
    clear fx zx
    rw [HR.out.1] at HN
    rw [HR.out.2] at HC
    have HCL := Lib.hid (addr_cellsOf _ HAO.out)
    have HAL := Lib.hid (AddrM.cells_length HAO.out)
    obtain ⟨ca, hca⟩ : ∃ x, (codeA l p).cells.toArray = x := ⟨_, rfl⟩
    have HCC := Lib.hid hca
    clear hca
    go_wp2_with (first | (refine wpList_load_obj rfl 25 (.tmp 3) rfl P3 0 rfl (codeA l p).cells (HN.out.blk 1 rfl).all _ Tryz.underlying25 rfl HCL.out ?_; rw [HCC.out]) | (refine wpList_store_blk rfl 25 (.tmp 2) (.tmp 17) rfl w.heap.size (codeA l p).cells rfl (by show Value.agg ca = _; rw [HCC.out]) 25 addr0.cells (HN.out.blk 2 rfl) HCL.out (by rw [HAL.out]; rfl) (AddrM.one _) ?_; intro w9 hb9 hg9))
    exact bodyPost_ret (results_obj rfl _ _ w.heap.size 25 (codeA l p).cells _ rfl hb9 Tryz.underlying25 rfl HCL.out) rfl ⟨rfl, HC.out.put hg9 hgl, (HN.out.put 2 rfl _ hg9 hb9).2⟩
  | false =>
    obtain ⟨u1, hu1⟩ : ∃ u, UInt8.ofNat (nextV l (nextP l p 3) 4) = u := ⟨_, rfl⟩
    obtain ⟨u2, hu2⟩ : ∃ u, UInt8.ofNat (nextV l (nextP l (nextP l p 3) 4) 4) = u := ⟨_, rfl⟩
    obtain ⟨u3, hu3⟩ : ∃ u, UInt8.ofNat (nextV l (nextP l (nextP l (nextP l p 3) 4) 4) 256) = u := ⟨_, rfl⟩
    have hF : fourB l (nextP l p 3) = [10, u1, u2, u3] := by rw [fourB, hu1, hu2, hu3]
    have HR := Lib.hid (show (AddrM.mk false (putL (List.replicate 16 0) 0 [10, u1, u2, u3])) = codeA l p ∧ nextP l (nextP l (nextP l (nextP l p 3) 4) 4) 256 = codeAP l p from by rw [codeA, codeAP, HSX.out, ← hF]; exact ⟨rfl, rfl⟩)
    have HPUT := Lib.hid (show setL (.bool false :: (List.replicate 16 (0 : UInt8)).map u8v) 1 (([10, u1, u2, u3] : List UInt8).map u8v) = (AddrM.mk false (putL (List.replicate 16 0) 0 ([10, u1, u2, u3] : List UInt8))).cells from addr_put false [10, u1, u2, u3])
    have hw1 : IntKind.u8.wrap (nextV l (nextP l p 3) 4 : Int) = (u1.toNat : Int) := by rw [← hu1]; exact codeByte_wrap _
    have hw2 : IntKind.u8.wrap (nextV l (nextP l (nextP l p 3) 4) 4 : Int) = (u2.toNat : Int) := by rw [← hu2]; exact codeByte_wrap _
    have hw3 : IntKind.u8.wrap (nextV l (nextP l (nextP l (nextP l p 3) 4) 4) 256 : Int) = (u3.toNat : Int) := by rw [← hu3]; exact codeByte_wrap _
    have HW := Lib.hid (And.intro hw1 (And.intro hw2 hw3))
    clear hw1 hw2 hw3 hu1 hu2 hu3 hF
    go_upto_region 6 with fail
    clear f6
    refine wp_region_held_drew (S := fun _ => True) (by kernel_rfl) (trivial) (fun hHeld => ?_)
    replace HM := Lib.hid HM.out.drew
    replace HC := Lib.hid (HC.out.below ((Below.refl _ _).drew))
    generalize w3.drew = wd1 at HM HC hHeld ⊢
    refine take_first (v := ?_) 0 rfl (by kernel_rfl) (by kernel_rfl) (by kernel_rfl) (fun _ _ _ h => h) (Or.inl ⟨by rfl, ?_⟩) (by assumption) ?_
    rotate_left
    · (intro w hSw; (try dsimp only at hSw); go_simp; try with_reducible rfl)
    (try simp only [Act.put, List.setIfInBounds_toArray, List.set_cons_zero, List.set_cons_succ])
    refine take_first (v := ?_) 1 rfl (by kernel_rfl) (by kernel_rfl) (by kernel_rfl) (fun _ _ _ h => h) (Or.inl ⟨by rfl, ?_⟩) (by assumption) ?_
    rotate_left
    · (intro w hSw; (try dsimp only at hSw); go_simp; try with_reducible rfl)
    (try simp only [Act.put, List.setIfInBounds_toArray, List.set_cons_zero, List.set_cons_succ])
    refine take_first (v := ?_) 2 rfl (by kernel_rfl) (by kernel_rfl) (by kernel_rfl) (fun _ _ _ h => h) (Or.inl ⟨by rfl, ?_⟩) (by assumption) ?_
    rotate_left
    · (intro w hSw; (try dsimp only at hSw); go_simp; try with_reducible rfl)
    (try simp only [Act.put, List.setIfInBounds_toArray, List.set_cons_zero, List.set_cons_succ])
    refine take_first (v := ?_) 5 rfl (by kernel_rfl) (by kernel_rfl) (by kernel_rfl) (fun _ _ _ h => h) (Or.inl ⟨by rfl, ?_⟩) (by assumption) ?_
    rotate_left
    · (intro w hSw; (try dsimp only at hSw); go_simp; try with_reducible rfl)
    (try simp only [Act.put, List.setIfInBounds_toArray, List.set_cons_zero, List.set_cons_succ])
    refine take_first (v := ?_) 8 rfl (by kernel_rfl) (by kernel_rfl) (by kernel_rfl) (fun _ _ _ h => h) (Or.inl ⟨by rfl, ?_⟩) (by assumption) ?_
    rotate_left
    · (intro w hSw; (try dsimp only at hSw); go_simp; try with_reducible rfl)
    (try simp only [Act.put, List.setIfInBounds_toArray, List.set_cons_zero, List.set_cons_succ])
    refine step_one 3 rfl (by kernel_rfl) (fun K hK => ?_)
    clear hHeld
    go_simp
    refine (HC.out.callNext 4 (by omega)).mono ?_
    rintro e wy2 ⟨rfl, hc2, hg2⟩
    replace HM := Lib.hid (show MemG w g [blkE P3 25 (.bool false :: (List.replicate 16 (0 : UInt8)).map u8v), blkE w.heap.size 25 addr0.cells] wy2 from HM.out.next hgl hg2)
    replace HC := Lib.hid hc2
    clear hc2 hg2
    go_wp2_with fail
    refine hK.out _ _ (trivial) (fun hHeld => ?_)
    clear hK K
    (try simp only [Act.put, List.setIfInBounds_toArray, List.set_cons_zero, List.set_cons_succ])
    refine take_first (v := ?_) 4 rfl (by kernel_rfl) (by kernel_rfl) (by kernel_rfl) (fun _ _ _ h => h) (Or.inl ⟨by rfl, ?_⟩) (by assumption) ?_
    rotate_left
    · (intro w hSw; (try dsimp only at hSw); have e1 := HW.out.1; go_simp; try with_reducible rfl)
    (try simp only [Act.put, List.setIfInBounds_toArray, List.set_cons_zero, List.set_cons_succ])
    refine step_one 6 rfl (by kernel_rfl) (fun K hK => ?_)
    clear hHeld
    go_simp
    refine (HC.out.callNext 4 (by omega)).mono ?_
    rintro e wy3 ⟨rfl, hc2, hg2⟩
    replace HM := Lib.hid (show MemG w g [blkE P3 25 (.bool false :: (List.replicate 16 (0 : UInt8)).map u8v), blkE w.heap.size 25 addr0.cells] wy3 from HM.out.next hgl hg2)
    replace HC := Lib.hid hc2
    clear hc2 hg2
    go_wp2_with fail
    refine hK.out _ _ (trivial) (fun hHeld => ?_)
    clear hK K
    (try simp only [Act.put, List.setIfInBounds_toArray, List.set_cons_zero, List.set_cons_succ])
    refine take_first (v := ?_) 7 rfl (by kernel_rfl) (by kernel_rfl) (by kernel_rfl) (fun _ _ _ h => h) (Or.inl ⟨by rfl, ?_⟩) (by assumption) ?_
    rotate_left
    · (intro w hSw; (try dsimp only at hSw); have e1 := HW.out.2.1; go_simp; try with_reducible rfl)
    (try simp only [Act.put, List.setIfInBounds_toArray, List.set_cons_zero, List.set_cons_succ])
    refine step_one 9 rfl (by kernel_rfl) (fun K hK => ?_)
    clear hHeld
    go_simp
    refine (HC.out.callNext 256 (by omega)).mono ?_
    rintro e wy4 ⟨rfl, hc2, hg2⟩
    replace HM := Lib.hid (show MemG w g [blkE P3 25 (.bool false :: (List.replicate 16 (0 : UInt8)).map u8v), blkE w.heap.size 25 addr0.cells] wy4 from HM.out.next hgl hg2)
    replace HC := Lib.hid hc2
    clear hc2 hg2
    go_wp2_with fail
    refine hK.out _ _ (trivial) (fun hHeld => ?_)
    clear hK K
    (try simp only [Act.put, List.setIfInBounds_toArray, List.set_cons_zero, List.set_cons_succ])
    refine take_first (v := ?_) 10 rfl (by kernel_rfl) (by kernel_rfl) (by kernel_rfl) (fun _ _ _ h => h) (Or.inl ⟨by rfl, ?_⟩) (by assumption) ?_
    rotate_left
    · (intro w hSw; (try dsimp only at hSw); have e1 := HW.out.2.2; go_simp; try with_reducible rfl)
    (try simp only [Act.put, List.setIfInBounds_toArray, List.set_cons_zero, List.set_cons_succ])
    refine step_one 11 rfl (by kernel_rfl) (fun K hK => ?_)
    clear hHeld
    go_simp
    replace HM := Lib.hid (show MemG w g [blkE wy4.heap.size 5 (([10, u1, u2, u3] : List UInt8).map u8v), blkE P3 25 (.bool false :: (List.replicate 16 (0 : UInt8)).map u8v), blkE w.heap.size 25 addr0.cells] (wy4.alloc (.cells #[.int .u8 10, .int .u8 (u1.toNat : Int), .int .u8 (u2.toNat : Int), .int .u8 (u3.toNat : Int)] 5)) from HM.out.alloc rfl 5 #[.int .u8 10, .int .u8 (u1.toNat : Int), .int .u8 (u2.toNat : Int), .int .u8 (u3.toNat : Int)] (([10, u1, u2, u3] : List UInt8).map u8v) rfl)
    replace HC := Lib.hid (HC.out.below ((Below.refl _ _).alloc (Nat.le_refl _) (.cells #[.int .u8 10, .int .u8 (u1.toNat : Int), .int .u8 (u2.toNat : Int), .int .u8 (u3.toNat : Int)] 5)))
    generalize wy4.alloc (.cells #[.int .u8 10, .int .u8 (u1.toNat : Int), .int .u8 (u2.toNat : Int), .int .u8 (u3.toNat : Int)] 5) = wy5 at HM HC ⊢
    generalize wy4.heap.size = PB at HM ⊢
    refine hK.out _ _ (trivial) (fun hHeld => ?_)
    clear hK K
    (try simp only [Act.put, List.setIfInBounds_toArray, List.set_cons_zero, List.set_cons_succ])
    refine step_one 12 rfl (by kernel_rfl) (fun K hK => ?_)
    clear hHeld
    refine step_copy_bytes _ rfl (.tmp 19) (.tmp 29) 22 22 (by rfl) 5 Tryz.underlying22 (by kernel_rfl) P3 1 4 16 ⟨PB, 0, none⟩ 4 4 (by rfl) (by rfl) (.bool false :: (List.replicate 16 (0 : UInt8)).map u8v) 25 (HM.out.blk 1 rfl) ((([10, u1, u2, u3] : List UInt8)).map u8v) (by rw [List.length_map, show ([10, u1, u2, u3] : List UInt8).length = 4 from rfl]; rfl) (fun q v hv => by rw [Go.WideShapes.add_plain]; exact (HM.out.blk 0 rfl).all q v hv) (by rw [List.length_map, show ([10, u1, u2, u3] : List UInt8).length = 4 from rfl]; simp) (u8v_one _) ?_
    intro wy6 hb hg
    replace hb : Blk wy6 P3 25 (AddrM.mk false (putL (List.replicate 16 0) 0 ([10, u1, u2, u3] : List UInt8))).cells := by rw [← HPUT.out]; exact hb
    replace HM := Lib.hid (show MemG w g [blkE PB 5 (([10, u1, u2, u3] : List UInt8).map u8v), blkE P3 25 (AddrM.mk false (putL (List.replicate 16 0) 0 ([10, u1, u2, u3] : List UInt8))).cells, blkE w.heap.size 25 addr0.cells] wy6 from HM.out.put 1 rfl _ hg hb)
    replace HC := Lib.hid (HC.out.put hg HPG.out)
    clear hb hg
    refine hK.out _ _ (trivial) (fun hHeld => ?_)
    clear hK K
    (try simp only [Act.put, List.setIfInBounds_toArray, List.set_cons_zero, List.set_cons_succ])
    refine wpAnyH_done (by kernel_rfl) ?_ _
    clear hHeld
    revert wy6
    intro w5 HM HC
    rw [HR.out.1] at HM
    rw [HR.out.2] at HC
    have HCL := Lib.hid (addr_cellsOf _ HAO.out)
    have HAL := Lib.hid (AddrM.cells_length HAO.out)
    obtain ⟨ca, hca⟩ : ∃ x, (codeA l p).cells.toArray = x := ⟨_, rfl⟩
    have HCC := Lib.hid hca
    clear hca
    go_wp2_with (first | (refine wpList_load_obj rfl 25 (.tmp 3) rfl P3 0 rfl (codeA l p).cells (HM.out.blk 1 rfl).all _ Tryz.underlying25 rfl HCL.out ?_; rw [HCC.out]) | (refine wpList_store_blk rfl 25 (.tmp 2) (.tmp 31) rfl w.heap.size (codeA l p).cells rfl (by show Value.agg ca = _; rw [HCC.out]) 25 addr0.cells (HM.out.blk 2 rfl) HCL.out (by rw [HAL.out]; rfl) (AddrM.one _) ?_; intro w9 hb9 hg9))
    exact bodyPost_ret (results_obj rfl _ _ w.heap.size 25 (codeA l p).cells _ rfl hb9 Tryz.underlying25 rfl HCL.out) rfl ⟨rfl, HC.out.put hg9 hgl, (HM.out.put 2 rfl _ hg9 hb9).2⟩
end Go.Proofs.YtkhghmmgegkiiaaGreatDoor
namespace Go.Proofs.YtkhghmmgegkiiaaGreatDoor
open Go.RowKit

theorem or_i64_nat (a b : Nat) (ha : a < 9223372036854775808) (hb : b < 9223372036854775808) : bits BinOp.or IntKind.i64 (a : Int) (b : Int) = ((a ||| b : Nat) : Int) := by
  have hx : a ||| b < 2 ^ 63 := Nat.or_lt_two_pow (by omega) (by omega)
  have h1 : (BitVec.ofInt 64 (a : Int)).toNat = a := by
    rw [BitVec.ofInt_natCast, BitVec.toNat_ofNat]; exact Nat.mod_eq_of_lt (by omega)
  have h2 : (BitVec.ofInt 64 (b : Int)).toNat = b := by
    rw [BitVec.ofInt_natCast, BitVec.toNat_ofNat]; exact Nat.mod_eq_of_lt (by omega)
  show IntKind.i64.wrap ((BitVec.ofInt 64 (a : Int) ||| BitVec.ofInt 64 (b : Int)).toNat : Int) = _
  rw [BitVec.toNat_or, h1, h2, IntKind.wrap_i64]
  omega
/-- three choices as one number -/
def bigV (l : List UInt8) (p : Nat) : Nat := nextV l p 256 * 65536 ||| nextV l (nextP l p 256) 256 * 256 ||| nextV l (nextP l (nextP l p 256) 256) 256
def bigP (l : List UInt8) (p : Nat) : Nat := nextP l (nextP l (nextP l p 256) 256) 256
set_option maxRecDepth 100000 in
set_option maxHeartbeats 2000000 in
theorem caseBig_any (g : Nat) (A : Option Addr) (n c : Nat) (l : List UInt8) (B : Nat) (p : Nat) (m : Nat) (h1 : 1 ≤ m) (hm : m ≤ 1000000) (w : World) (hc : CodesAt w g A n c l B p) :
    Calls Tryz.prog 36 #[.pointer (some ⟨g, 0, none⟩), .int .i64 (m : Int)] w fun e w' => e = .returned (.int .i64 ((bigV l p % m : Nat) : Int)) ∧ CodesAt w' g A n c l B (bigP l p) ∧ w.grownBy w' (some g) := by
  have d1 : decide ((m : Int) < 1) = false := by simp; omega
  have HC := Lib.hid hc
  have C1 := hc.callNext 256 (by omega)
  have hx := nextV_lt l p 256 (by omega)
  have hy := nextV_lt l (nextP l p 256) 256 (by omega)
  have hz := nextV_lt l (nextP l (nextP l p 256) 256) 256 (by omega)
  have hv : bigV l p = nextV l p 256 * 65536 ||| nextV l (nextP l p 256) 256 * 256 ||| nextV l (nextP l (nextP l p 256) 256) 256 := rfl
  have hpp : bigP l p = nextP l (nextP l (nextP l p 256) 256) 256 := rfl
  rw [hv, hpp]
  obtain ⟨P1, hP1⟩ : ∃ z, nextP l p 256 = z := ⟨_, rfl⟩
  rw [hP1] at hy hz C1 ⊢
  obtain ⟨P2, hP2⟩ : ∃ z, nextP l P1 256 = z := ⟨_, rfl⟩
  rw [hP2] at hz ⊢
  obtain ⟨a, ha⟩ : ∃ z, nextV l p 256 = z := ⟨_, rfl⟩
  obtain ⟨b, hb⟩ : ∃ z, nextV l P1 256 = z := ⟨_, rfl⟩
  obtain ⟨d, hd⟩ : ∃ z, nextV l P2 256 = z := ⟨_, rfl⟩
  rw [ha] at hx C1 ⊢
  rw [hb] at hy ⊢
  rw [hd] at hz ⊢
  have HX := Lib.hid (And.intro hx (And.intro hy hz))
  have HA1 := Lib.hid hP2
  have HA2 := Lib.hid hb
  have HA3 := Lib.hid hd
  have HC1 := Lib.hid C1
  have e1 : (a : Int) * 65536 = ((a * 65536 : Nat) : Int) := by omega
  have e2 : (b : Int) * 256 = ((b * 256 : Nat) : Int) := by omega
  have o1 : bits BinOp.or IntKind.i64 ((a : Int) * 65536) ((b : Int) * 256) = ((a * 65536 ||| b * 256 : Nat) : Int) := by rw [e1, e2, or_i64_nat _ _ (by omega) (by omega)]
  have hlt1 : a * 65536 ||| b * 256 < 16777216 := Nat.or_lt_two_pow (n := 24) (by omega) (by omega)
  have o2 : bits BinOp.or IntKind.i64 ((a * 65536 ||| b * 256 : Nat) : Int) (d : Int) = ((a * 65536 ||| b * 256 ||| d : Nat) : Int) := or_i64_nat _ _ (by omega) (by omega)
  obtain ⟨v, hv2⟩ : ∃ z, a * 65536 ||| b * 256 ||| d = z := ⟨_, rfl⟩
  rw [hv2] at o2 ⊢
  obtain ⟨u, hu⟩ : ∃ z, a * 65536 ||| b * 256 = z := ⟨_, rfl⟩
  rw [hu] at o1 o2
  have w1 : IntKind.i64.wrap ((a : Int) * 65536) = (a : Int) * 65536 := IntWalk.i64_in _ (by omega)
  have w2 : IntKind.i64.wrap ((b : Int) * 256) = (b : Int) * 256 := IntWalk.i64_in _ (by omega)
  have m0 : ((m : Int) == 0) = false := by rw [beq_eq_false_iff_ne]; omega
  have m1 : ((v : Int)).tmod (m : Int) = ((v % m : Nat) : Int) := by rw [Int.tmod_eq_emod_of_nonneg (by omega)]; omega
  clear hx hy hz hP1 hP2 ha hb hd hv hpp C1 e1 e2 hlt1 hv2 hu hc
  go_enter Tryz.func36, Tryz.ntmps36
  go_wp2_with fail
  refine HC1.out.mono ?_
  rintro e w1' ⟨rfl, hc1, hg1⟩
  have HC2 := Lib.hid (hc1.callNext 256 (by omega))
  rw [HA1.out, HA2.out] at HC2
  have HG1 := Lib.hid hg1
  clear hc1 hg1
  go_wp2_with fail
  refine HC2.out.mono ?_
  rintro e w2' ⟨rfl, hc2, hg2⟩
  have HC3 := Lib.hid (hc2.callNext 256 (by omega))
  rw [HA3.out] at HC3
  have HG2 := Lib.hid (grownBy_trans HG1.out hg2)
  clear hc2 hg2
  go_wp2_with fail
  refine HC3.out.mono ?_
  rintro e w3' ⟨rfl, hc3, hg3⟩
  have HF := Lib.hid (And.intro hc3 (grownBy_trans HG2.out hg3))
  clear hc3 hg3
  go_wp2_with fail
  go_ret
  exact ⟨rfl, HF.out.1, HF.out.2⟩
/-- an endpoint of choices: its address, its port, and where the choices go on -/
def codeE (l : List UInt8) (p : Nat) : List Value := (codeA l p).cells ++ [.int .i64 ((1 + bigV l (codeAP l p) % 65535 : Nat) : Int)]
def codeEP (l : List UInt8) (p : Nat) : Nat := bigP l (codeAP l p)
theorem end_built (a : AddrM) (ha : a.ok) (q : Int) : Tryz.prog.built 27 [(0, .agg a.cells.toArray), (1, .int .i64 q)] = some (a.cells ++ [Value.int .i64 q]).toArray := by
  rw [built_of 27 [17, 1] [addr0.cells, [.int .i64 0]] rfl #[(0, 17), (17, 1)] (fun parts => by kernel_rfl) (fun i h => by
    match i, h with
    | 0, _ => rfl
    | 1, _ => rfl) _ (fun p hp => by
    simp only [List.mem_cons, List.not_mem_nil, or_false] at hp
    rcases hp with rfl | rfl
    · simp [Value.cells, AddrM.cells_length ha]
    · rfl)]
  simp [Value.cells]
def end0 : List Value := addr0.cells ++ [.int .i64 0]
set_option maxRecDepth 100000 in
set_option maxHeartbeats 2000000 in
theorem caseEndpoint_any (g : Nat) (A : Option Addr) (n c : Nat) (l : List UInt8) (B : Nat) (p : Nat) (w : World) (hc : CodesAt w g A n c l B p) :
    Calls Tryz.prog 10 #[.pointer (some ⟨g, 0, none⟩)] w fun e w' => e = .returned (.agg (codeE l p).toArray) ∧ CodesAt w' g A n c l B (codeEP l p) ∧ w.grownBy w' (some g) := by
  have hgl := hc.lt
  have hlt : bigV l (codeAP l p) % 65535 < 65535 := Nat.mod_lt _ (by omega)
  have hE : codeE l p = (codeA l p).cells ++ [.int .i64 ((1 + bigV l (codeAP l p) % 65535 : Nat) : Int)] := rfl
  have hP : codeEP l p = bigP l (codeAP l p) := rfl
  have hok := codeA_ok l p
  have HM := Lib.hid (show MemG w g [blkE w.heap.size 27 end0] (w.alloc (.cells #[.bool false, .int .u8 0, .int .u8 0, .int .u8 0, .int .u8 0, .int .u8 0, .int .u8 0, .int .u8 0, .int .u8 0, .int .u8 0, .int .u8 0, .int .u8 0, .int .u8 0, .int .u8 0, .int .u8 0, .int .u8 0, .int .u8 0, .int .i64 0] 27)) from (MemG.nil w g).alloc rfl 27 #[.bool false, .int .u8 0, .int .u8 0, .int .u8 0, .int .u8 0, .int .u8 0, .int .u8 0, .int .u8 0, .int .u8 0, .int .u8 0, .int .u8 0, .int .u8 0, .int .u8 0, .int .u8 0, .int .u8 0, .int .u8 0, .int .u8 0, .int .i64 0] end0 rfl)
  have HC0 := Lib.hid (caseAddr_any g A n c l B p _ (hc.below ((Below.refl _ _).alloc (Nat.le_refl w.heap.size) (.cells #[.bool false, .int .u8 0, .int .u8 0, .int .u8 0, .int .u8 0, .int .u8 0, .int .u8 0, .int .u8 0, .int .u8 0, .int .u8 0, .int .u8 0, .int .u8 0, .int .u8 0, .int .u8 0, .int .u8 0, .int .u8 0, .int .u8 0, .int .i64 0] 27))))
  rw [hE, hP]
  obtain ⟨q, hq⟩ : ∃ z, bigV l (codeAP l p) % 65535 = z := ⟨_, rfl⟩
  rw [hq] at hlt ⊢
  have HQ := Lib.hid hq
  have w1 : IntKind.i64.wrap (((1 + q : Nat)) : Int) = ((1 + q : Nat) : Int) := IntWalk.i64_in _ (by omega)
  have e1 : (1 : Int) + (q : Int) = ((1 + q : Nat) : Int) := by omega
  obtain ⟨r, hr⟩ : ∃ z, 1 + q = z := ⟨_, rfl⟩
  rw [hr] at w1 e1 ⊢
  obtain ⟨ca, hca⟩ : ∃ z, (codeA l p).cells.toArray = z := ⟨_, rfl⟩
  obtain ⟨ce, hce⟩ : ∃ z, ((codeA l p).cells ++ [Value.int .i64 (r : Int)]).toArray = z := ⟨_, rfl⟩
  have hbt := end_built (codeA l p) hok (r : Int)
  rw [hca] at HC0 hbt
  rw [hce] at hbt ⊢
  have HBT := Lib.hid hbt
  have HCE := Lib.hid hce
  have hlen : ((codeA l p).cells ++ [Value.int .i64 (r : Int)]).length = 18 := by rw [List.length_append, AddrM.cells_length hok]; rfl
  have HLN := Lib.hid hlen
  have HUE := Lib.hid (show (Tryz.prog.info? 27).map (·.size) = some ((codeA l p).cells ++ [Value.int .i64 (r : Int)]).length from by rw [hlen]; kernel_rfl)
  have HONE := Lib.hid (show ∀ v ∈ (codeA l p).cells ++ [Value.int .i64 (r : Int)], v.oneCell' = true from by
    intro v hv
    rcases List.mem_append.1 hv with hv | hv
    · exact AddrM.one _ v hv
    · rw [List.mem_singleton.1 hv]; rfl)
  clear hE hP hok hq hr hca hce hbt hlen hlt hc
  go_enter Tryz.func10, Tryz.ntmps10
  go_upto_region 1 with fail
  go_wp2_with fail
  refine HC0.out.mono ?_
  rintro e w1' ⟨rfl, hc1, hg1⟩
  have HC1 := Lib.hid (caseBig_any g A n c l B (codeAP l p) 65535 (by omega) (by omega) w1' hc1)
  rw [HQ.out] at HC1
  replace HM := Lib.hid (HM.out.next hgl hg1)
  clear hc1 hg1 HC0
  go_wp2_with fail
  refine HC1.out.mono ?_
  rintro e w2' ⟨rfl, hc2, hg2⟩
  replace HM := Lib.hid (HM.out.next hgl hg2)
  have HC2 := Lib.hid hc2
  clear hc2 hg2 HC1
  go_wp2_with (first | (refine wpList_build_as rfl 27 [(0, .tmp 4), (1, .tmp 7)] rfl ce ?_ ?_; exact HBT.out) | (refine wpList_store_blk rfl 27 (.tmp 2) (.tmp 8) rfl w.heap.size ((codeA l p).cells ++ [Value.int .i64 (r : Int)]) rfl (by show Value.agg ce = _; rw [HCE.out]) 27 end0 (HM.out.blk 0 rfl) HUE.out (by rw [HLN.out]; rfl) HONE.out ?_; intro w9 hb9 hg9))
  exact bodyPost_ret (results_obj rfl _ _ w.heap.size 27 ((codeA l p).cells ++ [Value.int .i64 (r : Int)]) _ rfl hb9 Tryz.underlying27 rfl HUE.out) rfl ⟨by rw [HCE.out], HC2.out.put hg9 hgl, (HM.out.put 0 rfl _ hg9 hb9).2⟩
end Go.Proofs.YtkhghmmgegkiiaaGreatDoor
namespace Go.Proofs.YtkhghmmgegkiiaaGreatDoor
open Go.RowKit

theorem run_eql_agg {P : Program} (ρ : Operand → Value) (o : Oper) (t r : TypeId) (i j : Tmp) (ho : o.op = .binOp .eql t (.tmp i) (.tmp j) r) (u v : Array Value) (b : Bool) (w : World) (hx : ρ (.tmp i) = .agg u) (hy : ρ (.tmp j) = .agg v) (hg : P.eqGuardType P.depth t = false) (he : (Op.equalIn 10000 t (.agg u) (.agg v)).run P w = .ok b w) :
    (execOp ρ o).run P w = .ok (.value (.bool b)) w := by
  have he2 : (Op.equalIn Op.maxDepth t (.agg u) (.agg v)).run P w = .ok b w := he
  unfold execOp
  simp only [ho, hx, hy, eqGuard]
  simp [binOp, Op.equal, he2, hg, Result.andThen]
end Go.Proofs.YtkhghmmgegkiiaaGreatDoor
namespace Go.Proofs.YtkhghmmgegkiiaaGreatDoor
open Go.RowKit

theorem addr_noguard : Tryz.prog.eqGuardType Tryz.prog.depth 25 = false := by kernel_rfl
theorem addr_lits (D : Nat) (a : AddrM) (h : a.ok) : LitsAt Tryz.prog (D + 3) 25 a.cells := by
  refine lits_struct Tryz.underlying25 a.cells ?_ (by simp) ?_
  · rw [AddrM.cells_length h]; kernel_rfl
  · intro f hf
    simp only [List.mem_cons, List.not_mem_nil, or_false] at hf
    rcases hf with rfl | rfl
    · have e : (a.cells.drop 0).take (Tryz.prog.cellsOf 4) = [.bool a.six] := by
        rw [show Tryz.prog.cellsOf 4 = 1 by kernel_rfl]; rfl
      exact e ▸ lits_bool Tryz.underlying4 a.six
    · have e : (a.cells.drop 1).take (Tryz.prog.cellsOf 23) = a.ip.map u8v := by
        rw [show Tryz.prog.cellsOf 23 = 16 by kernel_rfl, AddrM.cells, List.drop_succ_cons, List.drop_zero, List.take_of_length_le (by rw [List.length_map, h]; omega)]
      exact e ▸ lits_bytes Tryz.underlying23 Tryz.underlying5 (by kernel_rfl) a.ip h (by kernel_rfl)
theorem addr_same (a : AddrM) (h : a.ok) (w : World) : (Op.equalIn 10000 25 (.agg a.cells.toArray) (.agg a.cells.toArray)).run Tryz.prog w = .ok true w :=
  same_obj 5 3 25 (by omega) (by kernel_rfl) a.cells (addr_lits 0 a h) _ Tryz.underlying25 rfl (by rw [AddrM.cells_length h]; kernel_rfl) w
end Go.Proofs.YtkhghmmgegkiiaaGreatDoor
namespace Go.Proofs.YtkhghmmgegkiiaaGreatDoor
open Go.RowKit

def CfFmtAddrC (F : Nat) : Prop := ∀ a : AddrM, a.ok → ∀ w : World, LvCf w →
  Calls Tryz.prog F #[.agg a.cells.toArray] w fun e w' => e = .returned (.string ⟨(addrT a).toArray⟩) ∧ Below w.heap.size w w'
def CfParseAddrC (F : Nat) : Prop := ∀ l : List UInt8, l.length ≤ 100000 → ∀ w : World, LvCf w →
  Calls Tryz.prog F #[.string ⟨l.toArray⟩] w fun e w' => e = .returned (.tuple #[.agg (addrP l).1.cells.toArray, .int .i64 ((addrP l).2 : Int)]) ∧ Below w.heap.size w w'
def CfFmtEndC (F : Nat) : Prop := ∀ a : AddrM, a.ok → ∀ port : Int, -9223372036854775808 ≤ port → port ≤ 9223372036854775807 → ∀ w : World, LvCf w →
  Calls Tryz.prog F #[.agg (prefC a port).toArray] w fun e w' => e = .returned (.string ⟨(endT a port).toArray⟩) ∧ Below w.heap.size w w'
def CfParseEndC (F : Nat) : Prop := ∀ l : List UInt8, l.length ≤ 100000 → ∀ w : World, LvCf w →
  Calls Tryz.prog F #[.string ⟨l.toArray⟩] w fun e w' => e = .returned (.tuple #[.agg (prefC (endP l).1.1 ((endP l).1.2 : Int)).toArray, .int .i64 ((endP l).2 : Int)]) ∧ Below w.heap.size w w'
def CfFmtPrefC (F : Nat) : Prop := ∀ a : AddrM, a.ok → ∀ bits : Int, -9223372036854775808 ≤ bits → bits ≤ 9223372036854775807 → ∀ w : World, LvCf w →
  Calls Tryz.prog F #[.agg (prefC a bits).toArray] w fun e w' => e = .returned (.string ⟨(prefT a bits).toArray⟩) ∧ Below w.heap.size w w'
def CfParsePrefC (F : Nat) : Prop := ∀ l : List UInt8, l.length ≤ 100000 → ∀ w : World, LvCf w →
  Calls Tryz.prog F #[.string ⟨l.toArray⟩] w fun e w' => e = .returned (.tuple #[.agg (prefC (prefP l).1.1 ((prefP l).1.2 : Int)).toArray, .int .i64 ((prefP l).2 : Int)]) ∧ Below w.heap.size w w'

theorem end_cellsOf (a : AddrM) (h : a.ok) (q : Int) : (Tryz.prog.info? 27).map (·.size) = some (prefC a q).length := by
  rw [prefC_length a h q]; kernel_rfl
theorem end_noguard : Tryz.prog.eqGuardType Tryz.prog.depth 27 = false := by kernel_rfl
theorem pref_noguard : Tryz.prog.eqGuardType Tryz.prog.depth 29 = false := by kernel_rfl
theorem end_same (a : AddrM) (h : a.ok) (q : Int) (h1 : -9223372036854775808 ≤ q) (h2 : q ≤ 9223372036854775807) (w : World) : (Op.equalIn 10000 27 (.agg (prefC a q).toArray) (.agg (prefC a q).toArray)).run Tryz.prog w = .ok true w := by
  refine same_obj 6 4 27 (by omega) (by kernel_rfl) (prefC a q) ?_ _ Tryz.underlying27 rfl (by rw [prefC_length a h q]; kernel_rfl) w
  refine lits_struct Tryz.underlying27 (prefC a q) ?_ (by simp) ?_
  · rw [prefC_length a h q]; kernel_rfl
  · intro f hf
    simp only [List.mem_cons, List.not_mem_nil, or_false] at hf
    rcases hf with rfl | rfl
    · have e : ((prefC a q).drop 0).take (Tryz.prog.cellsOf 25) = a.cells := by
        rw [show Tryz.prog.cellsOf 25 = 17 by kernel_rfl]
        exact prefC_addr a h q
      exact e ▸ addr_lits 0 _ h
    · have e : ((prefC a q).drop 17).take (Tryz.prog.cellsOf 3) = [.int .i64 q] := by
        rw [show Tryz.prog.cellsOf 3 = 1 by kernel_rfl, prefC, List.drop_left' (AddrM.cells_length h)]; rfl
      exact e ▸ lits_int Tryz.underlying3 _ ⟨by simp [IntKind.min, IntKind.signed, IntKind.bits]; omega, by simp [IntKind.max, IntKind.signed, IntKind.bits]; omega⟩
theorem pref_same (a : AddrM) (h : a.ok) (q : Int) (h1 : -9223372036854775808 ≤ q) (h2 : q ≤ 9223372036854775807) (w : World) : (Op.equalIn 10000 29 (.agg (prefC a q).toArray) (.agg (prefC a q).toArray)).run Tryz.prog w = .ok true w := by
  refine same_obj 6 4 29 (by omega) (by kernel_rfl) (prefC a q) ?_ _ Tryz.underlying29 rfl (by rw [prefC_length a h q]; kernel_rfl) w
  refine lits_struct Tryz.underlying29 (prefC a q) ?_ (by simp) ?_
  · rw [prefC_length a h q]; kernel_rfl
  · intro f hf
    simp only [List.mem_cons, List.not_mem_nil, or_false] at hf
    rcases hf with rfl | rfl
    · have e : ((prefC a q).drop 0).take (Tryz.prog.cellsOf 25) = a.cells := by
        rw [show Tryz.prog.cellsOf 25 = 17 by kernel_rfl]
        exact prefC_addr a h q
      exact e ▸ addr_lits 0 _ h
    · have e : ((prefC a q).drop 17).take (Tryz.prog.cellsOf 3) = [.int .i64 q] := by
        rw [show Tryz.prog.cellsOf 3 = 1 by kernel_rfl, prefC, List.drop_left' (AddrM.cells_length h)]; rfl
      exact e ▸ lits_int Tryz.underlying3 _ ⟨by simp [IntKind.min, IntKind.signed, IntKind.bits]; omega, by simp [IntKind.max, IntKind.signed, IntKind.bits]; omega⟩
end Go.Proofs.YtkhghmmgegkiiaaGreatDoor
namespace Go.Proofs.YtkhghmmgegkiiaaGreatDoor
open Go.RowKit

theorem text_take (l : List UInt8) (k : Nat) : (ByteArray.mk l.toArray).extract 0 k = ⟨(l.take k).toArray⟩ := by
  apply Go.WideShapes.bytes_inj
  rw [Lib.extract_data]
  show (l.drop 0).take (k - 0) = l.take k
  rw [List.drop_zero, Nat.sub_zero]
theorem text_mid (l : List UInt8) (i k : Nat) : (ByteArray.mk l.toArray).extract i k = ⟨((l.drop i).take (k - i)).toArray⟩ := by
  apply Go.WideShapes.bytes_inj
  rw [Lib.extract_data]
theorem text_at (l : List UInt8) (i : Nat) (h : i < (ByteArray.mk l.toArray).size) : (ByteArray.mk l.toArray)[i] = l.getD i 0 := by
  have hi : i < l.length := by rwa [text_size] at h
  rw [getD_lt hi]
  rfl
def innerB (host : List UInt8) : List UInt8 := if brack host then (host.drop 1).take (host.length - 2) else host
set_option maxRecDepth 100000 in
set_option maxHeartbeats 8000000 in
theorem refParseEnd_any (l : List UInt8) (hl : l.length ≤ 100000) (w : World) :
    Calls Tryz.prog 43 #[.string ⟨l.toArray⟩] w fun e w' => e = .returned (.tuple #[.agg (prefC (endP l).1.1 ((endP l).1.2 : Int)).toArray, .int .i64 ((endP l).2 : Int)]) ∧ Below w.heap.size w w' := by
  have HLA := Lib.hid (refLast_any l (by omega))
  have hlq := last_le l
  have hv0 : endP l = if lastC l < 2 then ((addr0, 0), 5) else if (addrP (innerB (l.take (lastC l - 1)))).2 ≠ 0 ∨ (addrP (innerB (l.take (lastC l - 1)))).1.six ≠ brack (l.take (lastC l - 1)) ∨ (numP (l.drop (lastC l)) 5).2 = false ∨ (numP (l.drop (lastC l)) 5).1 < 1 ∨ 65535 < (numP (l.drop (lastC l)) 5).1 then ((addr0, 0), 5) else (((addrP (innerB (l.take (lastC l - 1)))).1, (numP (l.drop (lastC l)) 5).1), 0) := rfl
  have HV := Lib.hid hv0
  have HU0 := Lib.hid (show (Tryz.prog.info? 27).map (·.size) = some (prefC addr0 0).length from by kernel_rfl)
  have HM := Lib.hid (show Mem w [blkE w.heap.size 27 (prefC addr0 0)] (w.alloc (.cells #[.bool false, .int .u8 0, .int .u8 0, .int .u8 0, .int .u8 0, .int .u8 0, .int .u8 0, .int .u8 0, .int .u8 0, .int .u8 0, .int .u8 0, .int .u8 0, .int .u8 0, .int .u8 0, .int .u8 0, .int .u8 0, .int .u8 0, .int .i64 0] 27)) from (Mem.nil w).alloc rfl 27 #[.bool false, .int .u8 0, .int .u8 0, .int .u8 0, .int .u8 0, .int .u8 0, .int .u8 0, .int .u8 0, .int .u8 0, .int .u8 0, .int .u8 0, .int .u8 0, .int .u8 0, .int .u8 0, .int .u8 0, .int .u8 0, .int .u8 0, .int .i64 0] (prefC addr0 0) rfl)
  generalize lastC l = q at HLA hlq HV
  obtain ⟨S, hS⟩ : ∃ S : ByteArray, ⟨l.toArray⟩ = S := ⟨_, rfl⟩
  have hsz : S.size = l.length := by rw [← hS]; exact text_size l
  have HX1 := Lib.hid (show S.extract 0 (q - 1) = ⟨(l.take (q - 1)).toArray⟩ from by rw [← hS]; exact text_take l (q - 1))
  have HX2 := Lib.hid (show S.extract q l.length = ⟨(l.drop q).toArray⟩ from by rw [← hS]; exact text_drop l q _ rfl)
  rw [hS] at HLA ⊢
  clear hS hv0
  go_enter Tryz.func43, Tryz.ntmps43
  go_upto_region 1 with fail
  generalize w.alloc (.cells #[.bool false, .int .u8 0, .int .u8 0, .int .u8 0, .int .u8 0, .int .u8 0, .int .u8 0, .int .u8 0, .int .u8 0, .int .u8 0, .int .u8 0, .int .u8 0, .int .u8 0, .int .u8 0, .int .u8 0, .int .u8 0, .int .u8 0, .int .i64 0] 27) = w1 at HM ⊢
  go_wp2_with fail
  refine (HLA.out _).mono ?_
  rintro e w2 ⟨rfl, rfl⟩
  clear HLA
  by_cases hq2 : q < 2
  case pos =>
    replace HV := Lib.hid (HV.out.trans (if_pos hq2))
    have e1 : (q : Int) - 1 < 1 := by omega
    go_wp2_with (first | (refine wpList_build_as rfl 27 [] rfl #[.bool false, .int .u8 0, .int .u8 0, .int .u8 0, .int .u8 0, .int .u8 0, .int .u8 0, .int .u8 0, .int .u8 0, .int .u8 0, .int .u8 0, .int .u8 0, .int .u8 0, .int .u8 0, .int .u8 0, .int .u8 0, .int .u8 0, .int .i64 0] ?_ ?_; kernel_rfl) | (refine wpList_store_blk rfl 27 (.tmp 2) (.tmp 16) rfl w.heap.size (prefC addr0 0) rfl (by rfl) 27 (prefC addr0 0) (HM.out.blk 0 rfl) HU0.out rfl (prefC_one addr0 0) ?_; intro w9 hb9 hg9))
    exact bodyPost_ret (results_obj_tmp rfl _ _ w.heap.size 27 (prefC addr0 0) _ rfl hb9 Tryz.underlying27 rfl HU0.out) rfl ⟨by rw [HV.out]; rfl, (HM.out.put 0 rfl _ hg9 hb9).bel⟩
  replace HV := Lib.hid (HV.out.trans (if_neg hq2))
  obtain ⟨p, hp⟩ : ∃ z, q - 1 = z := ⟨_, rfl⟩
  have hpi : (q : Int) - 1 = (p : Int) := by omega
  rw [hp] at HV HX1
  rw [hpi]
  have p1 : ¬ ((p : Int) < 1) := by omega
  have p2 : p ≤ l.length := by omega
  have p3 : (0 : Int) ≤ (p : Int) := by omega
  have hhl : (l.take p).length = p := by rw [List.length_take]; omega
  obtain ⟨h, hh⟩ : ∃ z, l.take p = z := ⟨_, rfl⟩
  rw [hh] at HV HX1 hhl
  have HPL := Lib.hid hhl
  have hp6 : p ≤ 100000 := by omega
  have hqp : q = p + 1 := by omega
  have HQ := Lib.hid hqp
  have HSZ := Lib.hid hsz
  have HTS := Lib.hid (text_size h)
  have HLQ := Lib.hid hlq
  clear hh hp hpi hq2 hhl hlq
  go_upto_region 4 with fail
  refine wp_region_held_drew (S := fun _ => True) (by kernel_rfl) trivial (fun hHeld => ?_)
  replace HM := Lib.hid HM.out.drew
  generalize w1.drew = w3 at HM ⊢
  refine take_first (v := ?_) 0 rfl (by kernel_rfl) (by kernel_rfl) (by kernel_rfl) (fun _ _ _ h => h) (Or.inl ⟨by rfl, ?_⟩) (by assumption) ?_
  rotate_left
  · (intro w hSw; (try dsimp only at hSw); go_simp; try with_reducible rfl)
  (try simp only [Act.put, List.setIfInBounds_toArray, List.set_cons_zero, List.set_cons_succ])
  refine take_first (v := ?_) 1 rfl (by kernel_rfl) (by kernel_rfl) (by kernel_rfl) (fun _ _ _ h => h) (Or.inl ⟨by rfl, ?_⟩) (by assumption) ?_
  rotate_left
  · (intro w hSw; (try dsimp only at hSw); go_simp; try with_reducible rfl)
  (try simp only [Act.put, List.setIfInBounds_toArray, List.set_cons_zero, List.set_cons_succ])
  refine take_first (v := ?_) 2 rfl (by kernel_rfl) (by kernel_rfl) (by kernel_rfl) (fun _ _ _ h => h) (Or.inl ⟨by rfl, ?_⟩) (by assumption) ?_
  rotate_left
  · (intro w hSw; (try dsimp only at hSw); have hx := HX1.out; go_simp; try with_reducible rfl)
  (try simp only [Act.put, List.setIfInBounds_toArray, List.set_cons_zero, List.set_cons_succ])
  refine take_first (v := ?_) 3 rfl (by kernel_rfl) (by kernel_rfl) (by kernel_rfl) (fun _ _ _ h => h) (Or.inl ⟨by rfl, ?_⟩) (by assumption) ?_
  rotate_left
  · (intro w hSw; (try dsimp only at hSw); go_simp; try with_reducible rfl)
  (try simp only [Act.put, List.setIfInBounds_toArray, List.set_cons_zero, List.set_cons_succ])
  refine take_first (v := ?_) 4 rfl (by kernel_rfl) (by kernel_rfl) (by kernel_rfl) (fun _ _ _ h => h) (Or.inl ⟨by rfl, ?_⟩) (by assumption) ?_
  rotate_left
  · (intro w hSw; (try dsimp only at hSw); go_simp; try with_reducible rfl)
  (try simp only [Act.put, List.setIfInBounds_toArray, List.set_cons_zero, List.set_cons_succ])
  refine take_first (v := ?_) 5 rfl (by kernel_rfl) (by kernel_rfl) (by kernel_rfl) (fun _ _ _ h => h) (Or.inl ⟨by rfl, ?_⟩) (by assumption) ?_
  rotate_left
  · (intro w hSw; (try dsimp only at hSw); have hx := HX1.out; go_simp; try with_reducible rfl)
  (try simp only [Act.put, List.setIfInBounds_toArray, List.set_cons_zero, List.set_cons_succ])
  refine take_first (v := ?_) 6 rfl (by kernel_rfl) (by kernel_rfl) (by kernel_rfl) (fun _ _ _ h => h) (Or.inl ⟨by rfl, ?_⟩) (by assumption) ?_
  rotate_left
  · (intro w hSw; (try dsimp only at hSw); have hx := HTS.out; have hy := HPL.out; go_simp; try with_reducible rfl)
  (try simp only [Act.put, List.setIfInBounds_toArray, List.set_cons_zero, List.set_cons_succ])
  refine take_first (v := ?_) 7 rfl (by kernel_rfl) (by kernel_rfl) (by kernel_rfl) (fun _ _ _ h => h) (Or.inl ⟨by rfl, ?_⟩) (by assumption) ?_
  rotate_left
  · (intro w hSw; (try dsimp only at hSw); go_simp; try with_reducible rfl)
  (try simp only [Act.put, List.setIfInBounds_toArray, List.set_cons_zero, List.set_cons_succ])
  refine take_first (v := ?_) 8 rfl (by kernel_rfl) (by kernel_rfl) (by kernel_rfl) (fun _ _ _ h => h) (Or.inl ⟨by rfl, ?_⟩) (by assumption) ?_
  rotate_left
  · (intro w hSw; (try dsimp only at hSw); go_simp; try with_reducible rfl)
  (try simp only [Act.put, List.setIfInBounds_toArray, List.set_cons_zero, List.set_cons_succ])
  refine wpAnyH_done (by kernel_rfl) ?_ _
  clear hHeld
  go_upto_region 5 with fail
  obtain ⟨c0, hc0⟩ : ∃ z, h.getD 0 0 = z := ⟨_, rfl⟩
  obtain ⟨cl, hcl⟩ : ∃ z, h.getD (p - 1) 0 = z := ⟨_, rfl⟩
  have hI0 : ∀ hh, (ByteArray.mk h.toArray)[0]'hh = c0 := fun hh => by rw [text_at, hc0]
  have hIl : ∀ hh, (ByteArray.mk h.toArray)[p - 1]'hh = cl := fun hh => by rw [text_at, hcl]
  have hbr : brack h = decide (2 ≤ p ∧ c0 = 91 ∧ cl = 93) := by rw [brack, HPL.out, hc0, hcl]
  have hlen : h.length = p := HPL.out
  have hb0 := c0.toNat_lt
  have hbl := cl.toNat_lt
  obtain ⟨br, hbre⟩ : ∃ z, brack h = z := ⟨_, rfl⟩
  have HBE := Lib.hid hbre
  go_cut [7] (fun v wx => v = .bool br ∧ wx = w3)
  case first =>
    rw [hbre] at hbr
    clear hc0 hcl hbre
    by_cases h2 : p < 2
    · have HBR := Lib.hid (show br = false from by rw [hbr]; exact decide_eq_false (by omega))
      have g2 : ¬ (2 : Int) ≤ (p : Int) := by omega
      have g3 : decide ((2 : Int) ≤ (p : Int)) = false := decide_eq_false g2
      clear hbr
      go_wp2_with fail
      go_meet
      exact ⟨by rw [HBR.out], rfl⟩
    have g2 : (2 : Int) ≤ (p : Int) := by omega
    have g3 : decide ((2 : Int) ≤ (p : Int)) = true := decide_eq_true g2
    have g4 : (1 : Int) ≤ (p : Int) := by omega
    have g5 : p - 1 < p := by omega
    have g6 : 0 < p := by omega
    have g7 : (0 : Int) ≤ (p : Int) - 1 := by omega
    have g8 : (p : Int) - 1 < (p : Int) := by omega
    have g9 : IntKind.i64.wrap ((p : Int) - 1) = (p : Int) - 1 := IntWalk.i64_in _ (by omega)
    by_cases h91 : c0 = 91
    · have e91 : ((c0.toNat : Int) == 91) = true := by rw [h91]; rfl
      by_cases h93 : cl = 93
      · have e93 : ((cl.toNat : Int) == 93) = true := by rw [h93]; rfl
        have HBR := Lib.hid (show br = true from by rw [hbr]; exact decide_eq_true ⟨by omega, h91, h93⟩)
        clear hbr h91 h93
        go_wp2_with fail
        go_meet
        exact ⟨by rw [HBR.out], rfl⟩
      · have e93 : ((cl.toNat : Int) == 93) = false := by rw [beq_eq_false_iff_ne]; intro e; exact h93 (UInt8.toNat_inj.1 (by show cl.toNat = 93; omega))
        have HBR := Lib.hid (show br = false from by rw [hbr]; exact decide_eq_false (fun hh => h93 hh.2.2))
        clear hbr h91 h93
        go_wp2_with fail
        go_meet
        exact ⟨by rw [HBR.out], rfl⟩
    · have e91 : ((c0.toNat : Int) == 91) = false := by rw [beq_eq_false_iff_ne]; intro e; exact h91 (UInt8.toNat_inj.1 (by show c0.toNat = 91; omega))
      have HBR := Lib.hid (show br = false from by rw [hbr]; exact decide_eq_false (fun hh => h91 hh.2.1))
      clear hbr h91
      go_wp2_with fail
      go_meet
      exact ⟨by rw [HBR.out], rfl⟩
  clear hI0 hIl hbr hb0 hbl hc0 hcl
  revert wc
  intro w4 hcut
  obtain ⟨rfl, rfl⟩ := hcut
  have hwl : (innerB h).length ≤ 100000 := by
    unfold innerB
    split
    · rw [List.length_take, List.length_drop]; omega
    · omega
  have HIN := Lib.hid (show innerB h = if br then (h.drop 1).take (p - 2) else h from by rw [innerB, HBE.out, HPL.out])
  have HBT2 := Lib.hid (fun hb : br = true => show 2 ≤ p from by
    have h9 := HBE.out
    rw [hb, brack] at h9
    have := of_decide_eq_true h9
    have := HPL.out
    omega)
  go_upto_if 38 with fail
  go_cut [5] (fun v wx => v = .string ⟨(innerB h).toArray⟩ ∧ wx = w4)
  case first =>
    cases br
    · have HI2 := Lib.hid (show innerB h = h from by rw [HIN.out]; rfl)
      go_wp2_with fail
      go_meet
      exact ⟨by rw [HI2.out], rfl⟩
    · have hp2 := HBT2.out rfl
      have hx : (ByteArray.mk h.toArray).extract 1 (p - 1) = ⟨(innerB h).toArray⟩ := by rw [text_mid, HIN.out, if_pos rfl, show p - 1 - 1 = p - 2 from by omega]
      have g1 : (1 : Int) ≤ (p : Int) := by omega
      have g4 : (1 : Int) ≤ (p : Int) - 1 := by omega
      have g4' : 1 ≤ p - 1 := by omega
      have g5 : (p : Int) - 1 ≤ (p : Int) := by omega
      have g6 : p - 1 ≤ p := by omega
      have g7 : (0 : Int) ≤ (p : Int) - 1 := by omega
      have g9 : IntKind.i64.wrap ((p : Int) - 1) = (p : Int) - 1 := IntWalk.i64_in _ (by omega)
      go_wp2_with fail
      go_meet
      exact ⟨by first | rfl | rw [hx], rfl⟩
  clear HIN HBT2
  revert wc
  intro w5 hcut
  obtain ⟨rfl, rfl⟩ := hcut
  have HPA := Lib.hid (refParseAddr_any (innerB h) hwl)
  have hnl : (l.drop q).length ≤ 100000 := by rw [List.length_drop]; omega
  have HPN := Lib.hid (fun W => refNumberT_any (l.drop q) 5 (by omega) (by omega) W)
  have hok := addrP_ok (innerB h)
  have hn5 : (numP (l.drop q) 5).1 < 100000 := by
    rw [numP]
    split
    · rename_i h
      have h1 := numV_lt (l.drop q) h.2
      have : 10 ^ (l.drop q).length ≤ 10 ^ 5 := Nat.pow_le_pow_right (by omega) h.1.2.1
      show numV (l.drop q) < 100000
      omega
    · show 0 < 100000; omega
  generalize innerB h = inn at HPA HV hok ⊢
  rw [HBE.out] at HV
  obtain ⟨r, hr⟩ : ∃ z, addrP inn = z := ⟨_, rfl⟩
  rw [hr] at HPA HV hok
  obtain ⟨ra, re⟩ := r
  obtain ⟨nb, hnb⟩ : ∃ z, numP (l.drop q) 5 = z := ⟨_, rfl⟩
  rw [hnb] at HPN HV hn5
  obtain ⟨n, okq⟩ := nb
  generalize hdq : l.drop q = dq at HPN HX2
  dsimp only at HPA HPN HV hok hn5
  obtain ⟨cr, hcr⟩ : ∃ z, ra.cells.toArray = z := ⟨_, rfl⟩
  have hbt : Tryz.prog.built 27 [(0, .agg ra.cells.toArray), (1, .int .i64 (n : Int))] = some (prefC ra (n : Int)).toArray := end_built ra hok (n : Int)
  obtain ⟨cpx, hcpx⟩ : ∃ z, (prefC ra (n : Int)).toArray = z := ⟨_, rfl⟩
  rw [hcr, hcpx] at hbt
  rw [hcr] at HPA
  have HBT := Lib.hid hbt
  have HCR := Lib.hid hcr
  have HCP := Lib.hid hcpx
  have HU1 := Lib.hid (addr_cellsOf ra hok)
  have HUP := Lib.hid (end_cellsOf ra hok (n : Int))
  have HZA := Lib.hid (show addr0.cells.length = ra.cells.length from (AddrM.cells_length addr0_ok).trans (AddrM.cells_length hok).symm)
  have HZP := Lib.hid (show (prefC addr0 0).length = (prefC ra (n : Int)).length from (prefC_length addr0 addr0_ok 0).trans (prefC_length ra hok _).symm)
  have hwq : IntKind.i64.wrap ((p : Int) + 1) = (q : Int) := by have := HQ.out; rw [IntWalk.i64_in _ (by omega)]; omega
  have hql : q ≤ l.length := HLQ.out
  have hql2 : (q : Int) ≤ (l.length : Int) := by omega
  have hx2 := HX2.out
  clear hcr hcpx hbt hr hnb hwl hnl hdq hbre
  go_wp2_with fail
  refine (HPA.out _).mono ?_
  rintro e w6 ⟨rfl, hb⟩
  replace HM := Lib.hid (show Mem w [blkE w.heap.size 27 (prefC addr0 0)] w6 from HM.out.below hb)
  have HMZ := Lib.hid (show Mem w [blkE w6.heap.size 25 addr0.cells, blkE w.heap.size 27 (prefC addr0 0)] (w6.alloc (.cells #[.bool false, .int .u8 0, .int .u8 0, .int .u8 0, .int .u8 0, .int .u8 0, .int .u8 0, .int .u8 0, .int .u8 0, .int .u8 0, .int .u8 0, .int .u8 0, .int .u8 0, .int .u8 0, .int .u8 0, .int .u8 0, .int .u8 0] 25)) from HM.out.alloc rfl 25 #[.bool false, .int .u8 0, .int .u8 0, .int .u8 0, .int .u8 0, .int .u8 0, .int .u8 0, .int .u8 0, .int .u8 0, .int .u8 0, .int .u8 0, .int .u8 0, .int .u8 0, .int .u8 0, .int .u8 0, .int .u8 0, .int .u8 0] addr0.cells rfl)
  clear hb HM
  go_upto_region 9 with (refine wpList_store_blk rfl 25 (.tmp 8) (.tmp 46) rfl w6.heap.size ra.cells rfl (by show Value.agg cr = _; rw [HCR.out]) 25 addr0.cells (HMZ.out.blk 0 rfl) HU1.out HZA.out (AddrM.one _) ?_; intro w7 hb7 hg7)
  (try simp only [Act.put])
  have hm7 := HMZ.out.put 0 rfl _ hg7 hb7
  clear hb7 hg7 HMZ
  generalize w6.heap.size = gA at hm7 ⊢
  have HM := Lib.hid (show Mem w [blkE gA 25 ra.cells, blkE w.heap.size 27 (prefC addr0 0)] w7 from hm7)
  clear hm7
  go_wp2_with fail
  rw [show S.extract (p + 1) l.length = ⟨dq.toArray⟩ from by have h9 := HQ.out; rw [show p + 1 = q from by omega]; exact HX2.out]
  refine (HPN.out w7).mono ?_
  rintro e w8 ⟨rfl, rfl⟩
  clear hx2 hql2 hql hwq
  go_upto_region 10 with fail
  obtain ⟨bad, hbad⟩ : ∃ z, decide (re ≠ 0 ∨ ra.six ≠ br ∨ okq = false ∨ n < 1 ∨ 65535 < n) = z := ⟨_, rfl⟩
  have HBAD := Lib.hid hbad
  go_cut [75] (fun v wx => v = .bool bad ∧ wx = w7)
  case first =>
    have fsix : w7.cell? ⟨gA, 0, none⟩ = some (.bool ra.six) := (HM.out.blk 0 rfl).cell 0
    generalize ra.six = s6 at fsix hbad
    clear HM HV HBAD HBE HBT HCR HCP HU1 HUP HZA HZP HPN HPA HX1 HX2 HLQ HQ HPL HSZ HTS p1 p2 p3 hsz hlen hp6
    by_cases he : re = 0
    case neg =>
      have HB := Lib.hid (show bad = true from by rw [← hbad]; exact decide_eq_true (.inl he))
      have e1 : ((re : Int) != 0) = true := by rw [bne_iff_ne]; omega
      clear he hbad
      go_wp2_with fail
      go_meet
      exact ⟨by rw [HB.out], rfl⟩
    subst he
    by_cases h6 : s6 = br
    case neg =>
      have HB := Lib.hid (show bad = true from by rw [← hbad]; exact decide_eq_true (.inr (.inl h6)))
      clear hbad
      cases s6 <;> cases br
      all_goals first | exact absurd rfl h6 | skip
      all_goals clear h6
      all_goals go_wp2_with fail
      all_goals go_meet
      all_goals exact ⟨by rw [HB.out], rfl⟩
    subst h6
    cases okq
    case false =>
      have HB := Lib.hid (show bad = true from by rw [← hbad]; exact decide_eq_true (.inr (.inr (.inl rfl))))
      clear hbad
      go_wp2_with fail
      go_meet
      exact ⟨by rw [HB.out], rfl⟩
    by_cases hn1 : n < 1
    case pos =>
      have HB := Lib.hid (show bad = true from by rw [← hbad]; exact decide_eq_true (.inr (.inr (.inr (.inl hn1)))))
      have e1 : (n : Int) < 1 := by omega
      clear hbad hn1
      go_wp2_with fail
      go_meet
      exact ⟨by rw [HB.out], rfl⟩
    by_cases hn2 : 65535 < n
    case pos =>
      have HB := Lib.hid (show bad = true from by rw [← hbad]; exact decide_eq_true (.inr (.inr (.inr (.inr hn2)))))
      have e1 : ¬ (n : Int) < 1 := by omega
      have e2 : 65535 < (n : Int) := by omega
      clear hbad hn1 hn2
      go_wp2_with fail
      go_meet
      exact ⟨by rw [HB.out], rfl⟩
    have HB := Lib.hid (show bad = false from by rw [← hbad]; exact decide_eq_false (by rintro (h | h | h | h | h); exact h rfl; exact h rfl; cases h; exact hn1 h; exact hn2 h))
    have e1 : ¬ (n : Int) < 1 := by omega
    have e2 : ¬ 65535 < (n : Int) := by omega
    clear hbad hn1 hn2
    go_wp2_with fail
    go_meet
    exact ⟨by rw [HB.out], rfl⟩
  clear hbad
  revert wc
  intro w8 hcut
  obtain ⟨rfl, rfl⟩ := hcut
  cases bad
  case true =>
    replace HV := Lib.hid (HV.out.trans (if_pos (of_decide_eq_true HBAD.out)))
    go_wp2_with (first | (refine wpList_build_as rfl 27 [] rfl #[.bool false, .int .u8 0, .int .u8 0, .int .u8 0, .int .u8 0, .int .u8 0, .int .u8 0, .int .u8 0, .int .u8 0, .int .u8 0, .int .u8 0, .int .u8 0, .int .u8 0, .int .u8 0, .int .u8 0, .int .u8 0, .int .u8 0, .int .i64 0] ?_ ?_; kernel_rfl) | (refine wpList_store_blk rfl 27 (.tmp 2) (.tmp 76) rfl w.heap.size (prefC addr0 0) rfl (by rfl) 27 (prefC addr0 0) (HM.out.blk 1 rfl) HU0.out rfl (prefC_one addr0 0) ?_; intro w9 hb9 hg9))
    exact bodyPost_ret (results_obj_tmp rfl _ _ w.heap.size 27 (prefC addr0 0) _ rfl hb9 Tryz.underlying27 rfl HU0.out) rfl ⟨by rw [HV.out]; rfl, (HM.out.put 1 rfl _ hg9 hb9).bel⟩
  replace HV := Lib.hid (HV.out.trans (if_neg (of_decide_eq_false HBAD.out)))
  go_wp2_with (first | (refine wpList_load_obj rfl 25 (.tmp 8) rfl gA 0 rfl ra.cells (HM.out.blk 0 rfl).all _ Tryz.underlying25 rfl HU1.out ?_; rw [HCR.out]) | (refine wpList_build_as rfl 27 [(0, .tmp 77), (1, .tmp 78)] rfl cpx ?_ ?_; exact HBT.out) | (refine wpList_store_blk rfl 27 (.tmp 2) (.tmp 79) rfl w.heap.size (prefC ra (n : Int)) rfl (by show Value.agg cpx = _; rw [HCP.out]) 27 (prefC addr0 0) (HM.out.blk 1 rfl) HUP.out HZP.out (prefC_one _ _) ?_; intro w9 hb9 hg9))
  exact bodyPost_ret (results_obj_tmp rfl _ _ w.heap.size 27 (prefC ra (n : Int)) _ rfl hb9 Tryz.underlying27 rfl HUP.out) rfl ⟨by rw [HV.out]; rfl, (HM.out.put 1 rfl _ hg9 hb9).bel⟩
end Go.Proofs.YtkhghmmgegkiiaaGreatDoor
namespace Go.Proofs.YtkhghmmgegkiiaaGreatDoor
open Go.RowKit

theorem wpList_eql_agg {P : Program} {w : World} {ops : Array Oper} {rest : List Oper} {o : Oper} {a : Act} {Q : Exit → Act → World → Prop} (hw : Region.wanted o (yielded ops a.tmps) = true) (t r : TypeId) (i j : Tmp) (ho : o.op = .binOp .eql t (.tmp i) (.tmp j) r) (u v : Array Value) (b : Bool)
    (hx : a.eval (.tmp i) = .agg u) (hy : a.eval (.tmp j) = .agg v) (hg : P.eqGuardType P.depth t = false) (he : (Op.equalIn 10000 t (.agg u) (.agg v)).run P w = .ok b w)
    (h : wpList P ops Q rest (a.put o.dst (.bool b)) w) : wpList P ops Q (o :: rest) a w :=
  wpList_step fun K hK => by
    rw [if_pos hw]
    have he2 : (Op.equalIn Op.maxDepth t (.agg u) (.agg v)).run P w = .ok b w := he
    have hr : (execOp a.eval o).run P w = .ok (.value (.bool b)) w := by
      unfold execOp
      simp only [ho, hx, hy, eqGuard]
      simp [binOp, Op.equal, he2, hg, Result.andThen]
    unfold Oper.wp
    rw [hr]
    exact hK _ _ h
end Go.Proofs.YtkhghmmgegkiiaaGreatDoor
namespace Go.Proofs.YtkhghmmgegkiiaaGreatDoor
open Go.RowKit

theorem endP_one (inner : List UInt8) (b : Bool) (n : Nat × Bool) (r : (AddrM × Nat) × Nat) (hr : r = if (addrP inner).2 ≠ 0 ∨ (addrP inner).1.six ≠ b ∨ n.2 = false ∨ n.1 < 1 ∨ 65535 < n.1 then ((addr0, 0), 5) else (((addrP inner).1, n.1), 0)) : r.1.1.ok ∧ r.1.2 ≤ 65535 := by
  by_cases h : (addrP inner).2 ≠ 0 ∨ (addrP inner).1.six ≠ b ∨ n.2 = false ∨ n.1 < 1 ∨ 65535 < n.1
  · rw [if_pos h] at hr
    subst hr
    exact ⟨addr0_ok, Nat.zero_le _⟩
  · rw [if_neg h] at hr
    subst hr
    refine ⟨addrP_ok _, ?_⟩
    show n.1 ≤ 65535
    omega
theorem endP_ok (l : List UInt8) : (endP l).1.1.ok ∧ (endP l).1.2 ≤ 65535 := by
  rw [endP]
  dsimp only
  by_cases h : lastC l < 2
  · rw [if_pos h]
    exact ⟨addr0_ok, Nat.zero_le _⟩
  · rw [if_neg h]
    exact endP_one _ _ _ _ rfl
theorem numP_lt (l : List UInt8) (k : Nat) : (numP l k).1 < 10 ^ k := by
  rw [numP]
  split
  · rename_i h
    have h1 := numV_lt l h.2
    exact Nat.lt_of_lt_of_le h1 (Nat.pow_le_pow_right (by omega) h.1.2.1)
  · exact Nat.pos_of_ne_zero (by simp)
theorem prefP_ok (l : List UInt8) : (prefP l).1.1.ok ∧ (prefP l).1.2 ≤ 1000 := by
  have hn := numP_lt ((splitB 47 l).getD 1 []) 3
  have ha := addrP_ok ((splitB 47 l).getD 0 [])
  rw [prefP]
  dsimp only
  generalize addrP ((splitB 47 l).getD 0 []) = r at ha ⊢
  generalize numP ((splitB 47 l).getD 1 []) 3 = n at hn ⊢
  by_cases h : (splitB 47 l).length ≠ 2
  · rw [if_pos h]
    exact ⟨addr0_ok, Nat.zero_le _⟩
  · rw [if_neg h]
    by_cases h2 : r.2 ≠ 0 ∨ n.2 = false ∨ validM r.1 (n.1 : Int) = false
    · rw [if_pos h2]
      exact ⟨addr0_ok, Nat.zero_le _⟩
    · rw [if_neg h2]
      exact ⟨ha, show n.1 ≤ 1000 from by omega⟩
set_option maxRecDepth 100000 in
set_option maxHeartbeats 16000000 in
theorem cf_reads_any (HC2 : CfParseAddrC 21) (HC4 : CfParseEndC 22) (HC6 : CfParsePrefC 23)
    (l : List UInt8) (hl : l.length ≤ 100000) (w : World) (hlv : LvCf w) : Calls Tryz.prog 16 #[.string ⟨l.toArray⟩] w fun e w' => e = .returned (.bool true) ∧ Below w.heap.size w w' := by
  have HLV := Lib.hid hlv
  have hP1 := HC2 l hl
  have hP2 := refParseAddr_any l hl
  have hP3 := HC4 l hl
  have hP4 := refParseEnd_any l hl
  have hP5 := HC6 l hl
  have hP6 := refParsePref_any l hl
  have hx := addrP_ok l
  have hy := endP_ok l
  have hz := prefP_ok l
  generalize addrP l = rx at hP1 hP2 hx
  generalize endP l = ry at hP3 hP4 hy
  generalize prefP l = rz at hP5 hP6 hz
  obtain ⟨xa, xe⟩ := rx
  obtain ⟨⟨ya, yp⟩, ye⟩ := ry
  obtain ⟨⟨za, zb⟩, ze⟩ := rz
  dsimp only at hP1 hP2 hP3 hP4 hP5 hP6 hx hy hz
  have HUX := Lib.hid (addr_cellsOf xa hx)
  have HUY := Lib.hid (end_cellsOf ya hy.1 (yp : Int))
  have HUZ := Lib.hid (pref_cellsOf za hz.1 (zb : Int))
  have HLX := Lib.hid (show addr0.cells.length = xa.cells.length from (AddrM.cells_length addr0_ok).trans (AddrM.cells_length hx).symm)
  have HLY := Lib.hid (show (prefC addr0 0).length = (prefC ya (yp : Int)).length from (prefC_length addr0 addr0_ok 0).trans (prefC_length ya hy.1 _).symm)
  have HLZ := Lib.hid (show (prefC addr0 0).length = (prefC za (zb : Int)).length from (prefC_length addr0 addr0_ok 0).trans (prefC_length za hz.1 _).symm)
  have hSX := addr_same xa hx
  have hSY := end_same ya hy.1 (yp : Int) (by omega) (by omega)
  have hSZ := pref_same za hz.1 (zb : Int) (by omega) (by omega)
  obtain ⟨ax, hax⟩ : ∃ v, xa.cells.toArray = v := ⟨_, rfl⟩
  obtain ⟨ay, hay⟩ : ∃ v, (prefC ya (yp : Int)).toArray = v := ⟨_, rfl⟩
  obtain ⟨az, haz⟩ : ∃ v, (prefC za (zb : Int)).toArray = v := ⟨_, rfl⟩
  obtain ⟨S, hS⟩ : ∃ S : ByteArray, ⟨l.toArray⟩ = S := ⟨_, rfl⟩
  rw [hS] at hP1 hP2 hP3 hP4 hP5 hP6 ⊢
  rw [hax] at hP1 hP2 hSX
  rw [hay] at hP3 hP4 hSY
  rw [haz] at hP5 hP6 hSZ
  have HAX := Lib.hid hax
  have HAY := Lib.hid hay
  have HAZ := Lib.hid haz
  have HP1 := Lib.hid hP1
  have HP2 := Lib.hid hP2
  have HP3 := Lib.hid hP3
  have HP4 := Lib.hid hP4
  have HP5 := Lib.hid hP5
  have HP6 := Lib.hid hP6
  have HSX := Lib.hid hSX
  have HSY := Lib.hid hSY
  have HSZ := Lib.hid hSZ
  have HM := Lib.hid (Mem.nil w)
  clear hP1 hP2 hP3 hP4 hP5 hP6 hSX hSY hSZ hax hay haz hx hy hz hS hl hlv HC2 HC4 HC6
  go_enter Tryz.func16, Tryz.ntmps16
  go_wp2_with fail
  refine (HP1.out _ (HLV.out.below HM.out.bel)).mono ?_
  rintro e wb1 ⟨rfl, hb⟩
  replace HM := Lib.hid (show Mem w [] wb1 from HM.out.below hb)
  have HMZ := Lib.hid (show Mem w [blkE wb1.heap.size 25 addr0.cells] (wb1.alloc (.cells #[.bool false, .int .u8 0, .int .u8 0, .int .u8 0, .int .u8 0, .int .u8 0, .int .u8 0, .int .u8 0, .int .u8 0, .int .u8 0, .int .u8 0, .int .u8 0, .int .u8 0, .int .u8 0, .int .u8 0, .int .u8 0, .int .u8 0] 25)) from HM.out.alloc rfl 25 #[.bool false, .int .u8 0, .int .u8 0, .int .u8 0, .int .u8 0, .int .u8 0, .int .u8 0, .int .u8 0, .int .u8 0, .int .u8 0, .int .u8 0, .int .u8 0, .int .u8 0, .int .u8 0, .int .u8 0, .int .u8 0, .int .u8 0] addr0.cells rfl)
  clear hb HM
  go_upto_region 2 with (refine wpList_store_blk rfl 25 (.tmp 3) (.tmp 18) rfl wb1.heap.size xa.cells rfl (by show Value.agg ax = _; rw [HAX.out]) 25 addr0.cells (HMZ.out.blk 0 rfl) HUX.out HLX.out (AddrM.one _) ?_; intro wc1 hb hg; have HM9 := Lib.hid (HMZ.out.put 0 rfl _ hg hb))
  (try simp only [Act.put])
  clear hb hg HMZ
  generalize wb1.heap.size = g1 at HM9 ⊢
  have HM := Lib.hid (show Mem w [blkE g1 25 xa.cells] wc1 from HM9.out)
  clear HM9
  go_wp2_with fail
  refine (HP2.out _).mono ?_
  rintro e wb2 ⟨rfl, hb⟩
  replace HM := Lib.hid (show Mem w [blkE g1 25 xa.cells] wb2 from HM.out.below hb)
  have HMZ := Lib.hid (show Mem w [blkE wb2.heap.size 25 addr0.cells, blkE g1 25 xa.cells] (wb2.alloc (.cells #[.bool false, .int .u8 0, .int .u8 0, .int .u8 0, .int .u8 0, .int .u8 0, .int .u8 0, .int .u8 0, .int .u8 0, .int .u8 0, .int .u8 0, .int .u8 0, .int .u8 0, .int .u8 0, .int .u8 0, .int .u8 0, .int .u8 0] 25)) from HM.out.alloc rfl 25 #[.bool false, .int .u8 0, .int .u8 0, .int .u8 0, .int .u8 0, .int .u8 0, .int .u8 0, .int .u8 0, .int .u8 0, .int .u8 0, .int .u8 0, .int .u8 0, .int .u8 0, .int .u8 0, .int .u8 0, .int .u8 0, .int .u8 0] addr0.cells rfl)
  clear hb HM
  go_upto_region 3 with (refine wpList_store_blk rfl 25 (.tmp 5) (.tmp 23) rfl wb2.heap.size xa.cells rfl (by show Value.agg ax = _; rw [HAX.out]) 25 addr0.cells (HMZ.out.blk 0 rfl) HUX.out HLX.out (AddrM.one _) ?_; intro wc2 hb hg; have HM9 := Lib.hid (HMZ.out.put 0 rfl _ hg hb))
  (try simp only [Act.put])
  clear hb hg HMZ
  generalize wb2.heap.size = g2 at HM9 ⊢
  have HM := Lib.hid (show Mem w [blkE g2 25 xa.cells, blkE g1 25 xa.cells] wc2 from HM9.out)
  clear HM9
  go_wp2_with fail
  refine (HP3.out _ (HLV.out.below HM.out.bel)).mono ?_
  rintro e wb3 ⟨rfl, hb⟩
  replace HM := Lib.hid (show Mem w [blkE g2 25 xa.cells, blkE g1 25 xa.cells] wb3 from HM.out.below hb)
  have HMZ := Lib.hid (show Mem w [blkE wb3.heap.size 27 (prefC addr0 0), blkE g2 25 xa.cells, blkE g1 25 xa.cells] (wb3.alloc (.cells #[.bool false, .int .u8 0, .int .u8 0, .int .u8 0, .int .u8 0, .int .u8 0, .int .u8 0, .int .u8 0, .int .u8 0, .int .u8 0, .int .u8 0, .int .u8 0, .int .u8 0, .int .u8 0, .int .u8 0, .int .u8 0, .int .u8 0, .int .i64 0] 27)) from HM.out.alloc rfl 27 #[.bool false, .int .u8 0, .int .u8 0, .int .u8 0, .int .u8 0, .int .u8 0, .int .u8 0, .int .u8 0, .int .u8 0, .int .u8 0, .int .u8 0, .int .u8 0, .int .u8 0, .int .u8 0, .int .u8 0, .int .u8 0, .int .u8 0, .int .i64 0] (prefC addr0 0) rfl)
  clear hb HM
  go_upto_region 4 with (refine wpList_store_blk rfl 27 (.tmp 7) (.tmp 28) rfl wb3.heap.size (prefC ya (yp : Int)) rfl (by show Value.agg ay = _; rw [HAY.out]) 27 (prefC addr0 0) (HMZ.out.blk 0 rfl) HUY.out HLY.out (prefC_one _ _) ?_; intro wc3 hb hg; have HM9 := Lib.hid (HMZ.out.put 0 rfl _ hg hb))
  (try simp only [Act.put])
  clear hb hg HMZ
  generalize wb3.heap.size = g3 at HM9 ⊢
  have HM := Lib.hid (show Mem w [blkE g3 27 (prefC ya (yp : Int)), blkE g2 25 xa.cells, blkE g1 25 xa.cells] wc3 from HM9.out)
  clear HM9
  go_wp2_with fail
  refine (HP4.out _).mono ?_
  rintro e wb4 ⟨rfl, hb⟩
  replace HM := Lib.hid (show Mem w [blkE g3 27 (prefC ya (yp : Int)), blkE g2 25 xa.cells, blkE g1 25 xa.cells] wb4 from HM.out.below hb)
  have HMZ := Lib.hid (show Mem w [blkE wb4.heap.size 27 (prefC addr0 0), blkE g3 27 (prefC ya (yp : Int)), blkE g2 25 xa.cells, blkE g1 25 xa.cells] (wb4.alloc (.cells #[.bool false, .int .u8 0, .int .u8 0, .int .u8 0, .int .u8 0, .int .u8 0, .int .u8 0, .int .u8 0, .int .u8 0, .int .u8 0, .int .u8 0, .int .u8 0, .int .u8 0, .int .u8 0, .int .u8 0, .int .u8 0, .int .u8 0, .int .i64 0] 27)) from HM.out.alloc rfl 27 #[.bool false, .int .u8 0, .int .u8 0, .int .u8 0, .int .u8 0, .int .u8 0, .int .u8 0, .int .u8 0, .int .u8 0, .int .u8 0, .int .u8 0, .int .u8 0, .int .u8 0, .int .u8 0, .int .u8 0, .int .u8 0, .int .u8 0, .int .i64 0] (prefC addr0 0) rfl)
  clear hb HM
  go_upto_region 5 with (refine wpList_store_blk rfl 27 (.tmp 9) (.tmp 33) rfl wb4.heap.size (prefC ya (yp : Int)) rfl (by show Value.agg ay = _; rw [HAY.out]) 27 (prefC addr0 0) (HMZ.out.blk 0 rfl) HUY.out HLY.out (prefC_one _ _) ?_; intro wc4 hb hg; have HM9 := Lib.hid (HMZ.out.put 0 rfl _ hg hb))
  (try simp only [Act.put])
  clear hb hg HMZ
  generalize wb4.heap.size = g4 at HM9 ⊢
  have HM := Lib.hid (show Mem w [blkE g4 27 (prefC ya (yp : Int)), blkE g3 27 (prefC ya (yp : Int)), blkE g2 25 xa.cells, blkE g1 25 xa.cells] wc4 from HM9.out)
  clear HM9
  go_wp2_with fail
  refine (HP5.out _ (HLV.out.below HM.out.bel)).mono ?_
  rintro e wb5 ⟨rfl, hb⟩
  replace HM := Lib.hid (show Mem w [blkE g4 27 (prefC ya (yp : Int)), blkE g3 27 (prefC ya (yp : Int)), blkE g2 25 xa.cells, blkE g1 25 xa.cells] wb5 from HM.out.below hb)
  have HMZ := Lib.hid (show Mem w [blkE wb5.heap.size 29 (prefC addr0 0), blkE g4 27 (prefC ya (yp : Int)), blkE g3 27 (prefC ya (yp : Int)), blkE g2 25 xa.cells, blkE g1 25 xa.cells] (wb5.alloc (.cells #[.bool false, .int .u8 0, .int .u8 0, .int .u8 0, .int .u8 0, .int .u8 0, .int .u8 0, .int .u8 0, .int .u8 0, .int .u8 0, .int .u8 0, .int .u8 0, .int .u8 0, .int .u8 0, .int .u8 0, .int .u8 0, .int .u8 0, .int .i64 0] 29)) from HM.out.alloc rfl 29 #[.bool false, .int .u8 0, .int .u8 0, .int .u8 0, .int .u8 0, .int .u8 0, .int .u8 0, .int .u8 0, .int .u8 0, .int .u8 0, .int .u8 0, .int .u8 0, .int .u8 0, .int .u8 0, .int .u8 0, .int .u8 0, .int .u8 0, .int .i64 0] (prefC addr0 0) rfl)
  clear hb HM
  go_upto_region 6 with (refine wpList_store_blk rfl 29 (.tmp 11) (.tmp 38) rfl wb5.heap.size (prefC za (zb : Int)) rfl (by show Value.agg az = _; rw [HAZ.out]) 29 (prefC addr0 0) (HMZ.out.blk 0 rfl) HUZ.out HLZ.out (prefC_one _ _) ?_; intro wc5 hb hg; have HM9 := Lib.hid (HMZ.out.put 0 rfl _ hg hb))
  (try simp only [Act.put])
  clear hb hg HMZ
  generalize wb5.heap.size = g5 at HM9 ⊢
  have HM := Lib.hid (show Mem w [blkE g5 29 (prefC za (zb : Int)), blkE g4 27 (prefC ya (yp : Int)), blkE g3 27 (prefC ya (yp : Int)), blkE g2 25 xa.cells, blkE g1 25 xa.cells] wc5 from HM9.out)
  clear HM9
  go_wp2_with fail
  refine (HP6.out _).mono ?_
  rintro e wb6 ⟨rfl, hb⟩
  replace HM := Lib.hid (show Mem w [blkE g5 29 (prefC za (zb : Int)), blkE g4 27 (prefC ya (yp : Int)), blkE g3 27 (prefC ya (yp : Int)), blkE g2 25 xa.cells, blkE g1 25 xa.cells] wb6 from HM.out.below hb)
  have HMZ := Lib.hid (show Mem w [blkE wb6.heap.size 29 (prefC addr0 0), blkE g5 29 (prefC za (zb : Int)), blkE g4 27 (prefC ya (yp : Int)), blkE g3 27 (prefC ya (yp : Int)), blkE g2 25 xa.cells, blkE g1 25 xa.cells] (wb6.alloc (.cells #[.bool false, .int .u8 0, .int .u8 0, .int .u8 0, .int .u8 0, .int .u8 0, .int .u8 0, .int .u8 0, .int .u8 0, .int .u8 0, .int .u8 0, .int .u8 0, .int .u8 0, .int .u8 0, .int .u8 0, .int .u8 0, .int .u8 0, .int .i64 0] 29)) from HM.out.alloc rfl 29 #[.bool false, .int .u8 0, .int .u8 0, .int .u8 0, .int .u8 0, .int .u8 0, .int .u8 0, .int .u8 0, .int .u8 0, .int .u8 0, .int .u8 0, .int .u8 0, .int .u8 0, .int .u8 0, .int .u8 0, .int .u8 0, .int .u8 0, .int .i64 0] (prefC addr0 0) rfl)
  clear hb HM
  go_upto_region 7 with (refine wpList_store_blk rfl 29 (.tmp 13) (.tmp 43) rfl wb6.heap.size (prefC za (zb : Int)) rfl (by show Value.agg az = _; rw [HAZ.out]) 29 (prefC addr0 0) (HMZ.out.blk 0 rfl) HUZ.out HLZ.out (prefC_one _ _) ?_; intro wc6 hb hg; have HM9 := Lib.hid (HMZ.out.put 0 rfl _ hg hb))
  (try simp only [Act.put])
  clear hb hg HMZ
  generalize wb6.heap.size = g6 at HM9 ⊢
  have HM := Lib.hid (show Mem w [blkE g6 29 (prefC za (zb : Int)), blkE g5 29 (prefC za (zb : Int)), blkE g4 27 (prefC ya (yp : Int)), blkE g3 27 (prefC ya (yp : Int)), blkE g2 25 xa.cells, blkE g1 25 xa.cells] wc6 from HM9.out)
  clear HM9
  have HB := Lib.hid HM.out.bel
  go_wp2_with (first | (refine wpList_load_obj rfl 25 (.tmp 3) rfl g1 0 rfl xa.cells (HM.out.blk 5 rfl).all _ Tryz.underlying25 rfl HUX.out ?_; rw [HAX.out]) | (refine wpList_load_obj rfl 25 (.tmp 5) rfl g2 0 rfl xa.cells (HM.out.blk 4 rfl).all _ Tryz.underlying25 rfl HUX.out ?_; rw [HAX.out]) | (refine wpList_eql_agg (by rfl) 25 25 45 46 rfl ax ax true rfl rfl addr_noguard (HSX.out _) ?_) | (refine wpList_load_obj_g (by rfl) 27 (.tmp 7) rfl g3 0 rfl (prefC ya (yp : Int)) (HM.out.blk 3 rfl).all _ Tryz.underlying27 rfl HUY.out ?_; rw [HAY.out]) | (refine wpList_load_obj_g (by rfl) 27 (.tmp 9) rfl g4 0 rfl (prefC ya (yp : Int)) (HM.out.blk 2 rfl).all _ Tryz.underlying27 rfl HUY.out ?_; rw [HAY.out]) | (refine wpList_eql_agg (by rfl) 27 27 54 55 rfl ay ay true rfl rfl end_noguard (HSY.out _) ?_) | (refine wpList_load_obj_g (by rfl) 29 (.tmp 11) rfl g5 0 rfl (prefC za (zb : Int)) (HM.out.blk 1 rfl).all _ Tryz.underlying29 rfl HUZ.out ?_; rw [HAZ.out]) | (refine wpList_load_obj_g (by rfl) 29 (.tmp 13) rfl g6 0 rfl (prefC za (zb : Int)) (HM.out.blk 0 rfl).all _ Tryz.underlying29 rfl HUZ.out ?_; rw [HAZ.out]) | (refine wpList_eql_agg (by rfl) 29 29 64 65 rfl az az true rfl rfl pref_noguard (HSZ.out _) ?_))
  go_ret
  exact ⟨rfl, HB.out⟩
end Go.Proofs.YtkhghmmgegkiiaaGreatDoor
namespace Go.Proofs.YtkhghmmgegkiiaaGreatDoor
open Go.RowKit

def hostB (u v : UInt8) : List UInt8 := [10, u, 0, v, 0, 0, 0, 0, 0, 0, 0, 0, 0, 0, 0, 0]
/-- the address 10.x.0.y -/
def hostM (x y : Nat) : AddrM := ⟨false, hostB (UInt8.ofNat x) (UInt8.ofNat y)⟩
theorem ip_built (u v : UInt8) : Tryz.prog.built 23 [(0, .int .u8 10), (1, .int .u8 (u.toNat : Int)), (2, .int .u8 0), (3, .int .u8 (v.toNat : Int))] = some ((hostB u v).map u8v).toArray := by kernel_rfl
theorem addr_built (l : List UInt8) (h : l.length = 16) : Tryz.prog.built 25 [(1, .agg (l.map u8v).toArray)] = some (AddrM.mk false l).cells.toArray := by
  rw [built_of 25 [1, 16] [[.bool false], (List.replicate 16 (0 : UInt8)).map u8v] rfl #[(0, 1), (1, 16)] (fun parts => by kernel_rfl) (fun i h => by
    match i, h with
    | 0, _ => rfl
    | 1, _ => rfl) _ (fun p hp => by
    simp only [List.mem_cons, List.not_mem_nil, or_false] at hp
    subst hp
    simp [Value.cells, h])]
  simp [AddrM.cells, Value.cells]
set_option maxRecDepth 100000 in
set_option maxHeartbeats 2000000 in
theorem caseHost_any (x y : Nat) (w : World) :
    Calls Tryz.prog 51 #[.int .i64 (x : Int), .int .i64 (y : Int)] w fun e w' => e = .returned (.agg (hostM x y).cells.toArray) ∧ Below w.heap.size w w' := by
  rw [hostM]
  have hw1 := codeByte_wrap x
  have hw2 := codeByte_wrap y
  generalize UInt8.ofNat x = u at hw1 ⊢
  generalize UInt8.ofNat y = v at hw2 ⊢
  have hb1 := ip_built u v
  have hb2 := addr_built (hostB u v) rfl
  have hok : (AddrM.mk false (hostB u v)).ok := rfl
  generalize hl : hostB u v = l at hb1 hb2 hok ⊢
  clear hl
  obtain ⟨ci, hci⟩ : ∃ c, (l.map u8v).toArray = c := ⟨_, rfl⟩
  obtain ⟨ca, hca⟩ : ∃ c, (AddrM.mk false l).cells.toArray = c := ⟨_, rfl⟩
  rw [hci] at hb1 hb2
  rw [hca] at hb2 ⊢
  have HB := Lib.hid (And.intro hb1 (And.intro hb2 hca))
  have HO := Lib.hid hok
  have HAL := Lib.hid (AddrM.cells_length HO.out)
  have HCO := Lib.hid (addr_cellsOf _ HO.out)
  clear hb1 hb2 hci hca hok
  have HM := Lib.hid (show Mem w [blkE w.heap.size 25 addr0.cells] (w.alloc (.cells #[.bool false, .int .u8 0, .int .u8 0, .int .u8 0, .int .u8 0, .int .u8 0, .int .u8 0, .int .u8 0, .int .u8 0, .int .u8 0, .int .u8 0, .int .u8 0, .int .u8 0, .int .u8 0, .int .u8 0, .int .u8 0, .int .u8 0] 25)) from (Mem.nil w).alloc rfl 25 #[.bool false, .int .u8 0, .int .u8 0, .int .u8 0, .int .u8 0, .int .u8 0, .int .u8 0, .int .u8 0, .int .u8 0, .int .u8 0, .int .u8 0, .int .u8 0, .int .u8 0, .int .u8 0, .int .u8 0, .int .u8 0, .int .u8 0] addr0.cells rfl)
  go_enter Tryz.func51, Tryz.ntmps51
  go_upto_region 1 with fail
  generalize w.alloc (.cells #[.bool false, .int .u8 0, .int .u8 0, .int .u8 0, .int .u8 0, .int .u8 0, .int .u8 0, .int .u8 0, .int .u8 0, .int .u8 0, .int .u8 0, .int .u8 0, .int .u8 0, .int .u8 0, .int .u8 0, .int .u8 0, .int .u8 0] 25) = w1 at HM ⊢
  go_wp2_with (first | (refine wpList_build_as rfl 23 [(0, .const (.int .u8 10)), (1, .tmp 6), (2, .const (.int .u8 0)), (3, .tmp 8)] rfl ci ?_ ?_; exact HB.out.1) | (refine wpList_build_as rfl 25 [(1, .tmp 9)] rfl ca ?_ ?_; exact HB.out.2.1) | (refine wpList_store_blk rfl 25 (.tmp 4) (.tmp 10) rfl w.heap.size (AddrM.mk false l).cells rfl (by show Value.agg ca = _; rw [HB.out.2.2]) 25 addr0.cells (HM.out.blk 0 rfl) HCO.out (by rw [HAL.out]; rfl) (AddrM.one _) ?_; intro w9 hb9 hg9))
  exact bodyPost_ret (results_obj rfl _ _ w.heap.size 25 (AddrM.mk false l).cells _ rfl hb9 Tryz.underlying25 rfl HCO.out) rfl ⟨by rw [HB.out.2.2], (HM.out.put 0 rfl _ hg9 hb9).bel⟩
end Go.Proofs.YtkhghmmgegkiiaaGreatDoor
