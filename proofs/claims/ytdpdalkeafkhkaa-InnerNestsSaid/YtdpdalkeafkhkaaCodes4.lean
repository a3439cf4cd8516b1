/-
  The contracts of the choices that the statements are made of: Addr, Prefix. No statement is proved here.
-/
import Derived.Test.YtdpdalkeafkhkaaCodes3
import Derived.Test.YtdpdalkeafkhkaaBuildRows
namespace Go.Proofs.Ytdpdalkeafkhkaa
open Go.RowKit

theorem MemE.join {b m : Nat} : ∀ {E2 E : List Ent} {top : Nat} {W : World}, MemE m E2 top W → MemE b E m W → MemE b (E2 ++ E) top W
  | [], _, _, _, h, k => MemE.keep k h (fun _ _ _ => rfl)
  | _ :: _, _, _, _, h, k => ⟨h.1, h.2.1, h.2.2.1, MemE.join h.2.2.2 k⟩
theorem MemG.join {w0 W W' : World} {g : Nat} {E E2 : List Ent} (h : MemG w0 g E W) (hg : g < w0.heap.size) (k : MemG W g E2 W') : MemG w0 g (E2 ++ E) W' :=
  ⟨MemE.join k.1 (h.1.keep (Nat.le_refl _) (fun q h1 hq => k.2.block q hq (fun e => by injection e with e; omega))), grownBy_trans h.2 k.2⟩
/-- the choices at a world: p of them taken -/
structure CodesAt (W : World) (g : Nat) (A : Option Addr) (n c : Nat) (l : List UInt8) (B : Nat) (p : Nat) : Prop where
  blk : Blk W g 61 (codesC A n c p)
  rd : Rd W B A n l
  le : B ≤ g
  lt : g < W.heap.size
  small : n ≤ 100000
  pos : p ≤ n
section
variable {W W' : World} {g : Nat} {A : Option Addr} {n c : Nat} {l : List UInt8} {B p : Nat}
theorem CodesAt.below (h : CodesAt W g A n c l B p) (hb : Below W.heap.size W W') : CodesAt W' g A n c l B p :=
  ⟨h.blk.below hb h.lt, h.rd.below2 (by have := h.le; have := h.lt; omega) hb, h.le, Nat.lt_of_lt_of_le h.lt hb.size, h.small, h.pos⟩
theorem CodesAt.put (h : CodesAt W g A n c l B p) {b : Nat} (hg : W.grownBy W' (some b)) (hb : g < b) : CodesAt W' g A n c l B p :=
  ⟨h.blk.grown hg (fun e => by injection e with e; omega), h.rd.keep (fun q hq => World.cell?_of_block (hg.block q.block (by have := h.le; have := h.lt; omega) (fun e => by injection e with e; have := h.le; omega))), h.le, Nat.lt_of_lt_of_le h.lt hg.size, h.small, h.pos⟩
theorem CodesAt.next (h : CodesAt W g A n c l B p) {q : Nat} (hq : q ≤ n) (hb : Blk W' g 61 (codesC A n c q)) (hg : W.grownBy W' (some g)) : CodesAt W' g A n c l B q :=
  ⟨hb, h.rd.kept h.le h.lt hg, h.le, Nat.lt_of_lt_of_le h.lt hg.size, h.small, hq⟩
theorem CodesAt.nextLe (h : CodesAt W g A n c l B p) (m : Nat) : nextP l p m ≤ n := by have := nextP_le l p m (by rw [h.rd.1]; exact h.pos); rw [h.rd.1] at this; exact this
theorem CodesAt.callNext (h : CodesAt W g A n c l B p) (m : Nat) (hm : m ≤ 1000000) :
    Calls Try.prog 32 #[.pointer (some ⟨g, 0, none⟩), .int .i64 (m : Int)] W fun e w' => e = .returned (.int .i64 (nextV l p m : Int)) ∧ CodesAt w' g A n c l B (nextP l p m) ∧ W.grownBy w' (some g) :=
  (caseNext_any g A n c l p h.small h.pos m hm B h.le W h.blk h.rd).mono fun _ _ k => ⟨k.1, h.next (h.nextLe m) k.2.1 k.2.2, k.2.2⟩
theorem CodesAt.callBytes (h : CodesAt W g A n c l B p) (m : Nat) (hm : m ≤ 1000) :
    Calls Try.prog 33 #[.pointer (some ⟨g, 0, none⟩), .int .i64 (m : Int)] W fun e w' => e = .returned (.slice (some ⟨W.heap.size, 0, none⟩) m m) ∧ CodesAt w' g A n c l B (nextP l p 256) ∧ MemG W g [blkE W.heap.size 5 ((pickB l p m).map u8v)] w' :=
  (caseBytes_any g A n c l p h.small h.pos m hm B h.le W h.blk h.rd).mono fun _ _ k => ⟨k.1, h.next (h.nextLe 256) k.2.1 k.2.2.2, k.2.2⟩
end
/-- an address of choices -/
def sixV (l : List UInt8) (p : Nat) : Bool := nextV l p 3 == 1
def fourB (l : List UInt8) (p : Nat) : List UInt8 := [10, UInt8.ofNat (nextV l p 4), UInt8.ofNat (nextV l (nextP l p 4) 4), UInt8.ofNat (nextV l (nextP l (nextP l p 4) 4) 256)]
def codeA (l : List UInt8) (p : Nat) : AddrM := ⟨sixV l p, if sixV l p then (pickB l (nextP l p 3) 16).set 0 253 else putL (List.replicate 16 0) 0 (fourB l (nextP l p 3))⟩
def codeAP (l : List UInt8) (p : Nat) : Nat := if sixV l p then nextP l (nextP l p 3) 256 else nextP l (nextP l (nextP l (nextP l p 3) 4) 4) 256
theorem codeA_ok (l : List UInt8) (p : Nat) : (codeA l p).ok := by
  unfold AddrM.ok codeA
  dsimp only
  split
  · rw [List.length_set, pickB_length]
  · rfl
theorem addr_put16 (b : Bool) (l : List UInt8) (h : l.length = 16) : setL (.bool b :: (List.replicate 16 (0 : UInt8)).map u8v) 1 (l.map u8v) = (AddrM.mk b l).cells := by
  rw [addr_put, AddrM.cells, putL, List.take_zero, List.nil_append, List.drop_of_length_le (by simp [h]), List.append_nil]
set_option maxRecDepth 100000 in
set_option maxHeartbeats 4000000 in
theorem caseAddr_any (g : Nat) (A : Option Addr) (n c : Nat) (l : List UInt8) (B : Nat) (p : Nat) (w : World) (hc : CodesAt w g A n c l B p) :
    Calls Try.prog 18 #[.pointer (some ⟨g, 0, none⟩)] w fun e w' => e = .returned (.agg (codeA l p).cells.toArray) ∧ CodesAt w' g A n c l B (codeAP l p) ∧ w.grownBy w' (some g) := by
  have hgl := hc.lt
  have HM := Lib.hid (show MemG w g [blkE w.heap.size 29 addr0.cells] (w.alloc (.cells #[.bool false, .int .u8 0, .int .u8 0, .int .u8 0, .int .u8 0, .int .u8 0, .int .u8 0, .int .u8 0, .int .u8 0, .int .u8 0, .int .u8 0, .int .u8 0, .int .u8 0, .int .u8 0, .int .u8 0, .int .u8 0, .int .u8 0] 29)) from (MemG.nil w g).alloc rfl 29 #[.bool false, .int .u8 0, .int .u8 0, .int .u8 0, .int .u8 0, .int .u8 0, .int .u8 0, .int .u8 0, .int .u8 0, .int .u8 0, .int .u8 0, .int .u8 0, .int .u8 0, .int .u8 0, .int .u8 0, .int .u8 0, .int .u8 0] addr0.cells rfl)
  have HC := Lib.hid (hc.below ((Below.refl _ _).alloc (Nat.le_refl _) (.cells #[.bool false, .int .u8 0, .int .u8 0, .int .u8 0, .int .u8 0, .int .u8 0, .int .u8 0, .int .u8 0, .int .u8 0, .int .u8 0, .int .u8 0, .int .u8 0, .int .u8 0, .int .u8 0, .int .u8 0, .int .u8 0, .int .u8 0] 29)))
  have HAO := Lib.hid (codeA_ok l p)
  have HCA := Lib.hid (show codeA l p = _ ∧ codeAP l p = _ from ⟨rfl, rfl⟩)
  clear hc
  go_enter Try.func18, Try.ntmps18
  go_upto_region 1 with fail
  generalize w.alloc (.cells #[.bool false, .int .u8 0, .int .u8 0, .int .u8 0, .int .u8 0, .int .u8 0, .int .u8 0, .int .u8 0, .int .u8 0, .int .u8 0, .int .u8 0, .int .u8 0, .int .u8 0, .int .u8 0, .int .u8 0, .int .u8 0, .int .u8 0] 29) = w1 at HM HC ⊢
  go_wp2_with fail
  refine (HC.out.callNext 3 (by omega)).mono ?_
  rintro e w2 ⟨rfl, hc2, hg2⟩
  have hsx : ((nextV l p 3 : Int) == 1) = sixV l p := by rw [sixV, Bool.eq_iff_iff, beq_iff_eq, beq_iff_eq]; omega
  replace HM := Lib.hid (HM.out.next hgl hg2)
  have HC := Lib.hid hc2
  clear hc2 hg2
  have HA := Lib.hid (show MemG w g [blkE w2.heap.size 29 addr0.cells, blkE w.heap.size 29 addr0.cells] (w2.alloc (.cells #[.bool false, .int .u8 0, .int .u8 0, .int .u8 0, .int .u8 0, .int .u8 0, .int .u8 0, .int .u8 0, .int .u8 0, .int .u8 0, .int .u8 0, .int .u8 0, .int .u8 0, .int .u8 0, .int .u8 0, .int .u8 0, .int .u8 0] 29)) from HM.out.alloc rfl 29 #[.bool false, .int .u8 0, .int .u8 0, .int .u8 0, .int .u8 0, .int .u8 0, .int .u8 0, .int .u8 0, .int .u8 0, .int .u8 0, .int .u8 0, .int .u8 0, .int .u8 0, .int .u8 0, .int .u8 0, .int .u8 0, .int .u8 0] addr0.cells rfl)
  have HC3 := Lib.hid (HC.out.below ((Below.refl _ _).alloc (Nat.le_refl _) (.cells #[.bool false, .int .u8 0, .int .u8 0, .int .u8 0, .int .u8 0, .int .u8 0, .int .u8 0, .int .u8 0, .int .u8 0, .int .u8 0, .int .u8 0, .int .u8 0, .int .u8 0, .int .u8 0, .int .u8 0, .int .u8 0, .int .u8 0] 29)))
  have hP3 := HC.out.lt
  obtain ⟨sx, hsxe⟩ : ∃ q, sixV l p = q := ⟨_, rfl⟩
  rw [hsxe] at hsx
  have HSX := Lib.hid hsxe
  clear hsxe
  go_upto_region 2 with (refine wpList_store_blk rfl 29 (.tmp 3) (.tmp 7) rfl w2.heap.size (.bool sx :: (List.replicate 16 (0 : UInt8)).map u8v) rfl rfl 29 addr0.cells (HA.out.blk 0 rfl) (by kernel_rfl) rfl (addr_one sx _) ?_; intro w3 hb hg)
  clear hsx
  (try simp only [Act.put])
  replace HM := Lib.hid (show MemG w g [blkE w2.heap.size 29 (.bool sx :: (List.replicate 16 (0 : UInt8)).map u8v), blkE w.heap.size 29 addr0.cells] w3 from HA.out.put 0 rfl _ hg hb)
  replace HC := Lib.hid (HC3.out.put hg hP3)
  clear HA HC3 hb hg
  have HPG := Lib.hid hP3
  clear hP3
  generalize w2.heap.size = P3 at HM HPG ⊢
  have f6 := (HM.out.blk 0 rfl).cell 0
  rw [show (.bool sx :: (List.replicate 16 (0 : UInt8)).map u8v : List Value)[0]? = some (.bool sx) from rfl] at f6
  cases sx with
  | true =>
    have HR := Lib.hid (show (AddrM.mk true ((pickB l (nextP l p 3) 16).set 0 253)) = codeA l p ∧ nextP l (nextP l p 3) 256 = codeAP l p from by rw [codeA, codeAP, HSX.out]; exact ⟨rfl, rfl⟩)
    have HBL := Lib.hid (pickB_length l (nextP l p 3) 16)
    have HPUT := Lib.hid (addr_put16 true (pickB l (nextP l p 3) 16) HBL.out)
    go_upto_region 3 with fail
    clear f6
    refine wp_region_held_drew (S := fun _ => True) (by kernel_rfl) (trivial) (fun hHeld => ?_)
    replace HM := Lib.hid HM.out.drew
    replace HC := Lib.hid (HC.out.below ((Below.refl _ _).drew))
    generalize w3.drew = wd1 at HM HC hHeld ⊢
    refine take_first (v := ?_) 0 rfl (by kernel_rfl) (by kernel_rfl) (by kernel_rfl) (fun _ _ _ h => h) (Or.inl ⟨by rfl, ?_⟩) (by assumption) ?_
    rotate_left
    · (intro w hSw; (try dsimp only at hSw); go_simp; try with_reducible rfl)
    (try simp only [Act.put, List.setIfInBounds_toArray, List.set_cons_zero, List.set_cons_succ])
    refine take_first (v := ?_) 1 rfl (by kernel_rfl) (by kernel_rfl) (by kernel_rfl) (fun _ _ _ h => h) (Or.inl ⟨by rfl, ?_⟩) (by assumption) ?_
    rotate_left
    · (intro w hSw; (try dsimp only at hSw); go_simp; try with_reducible rfl)
    (try simp only [Act.put, List.setIfInBounds_toArray, List.set_cons_zero, List.set_cons_succ])
    refine take_first (v := ?_) 2 rfl (by kernel_rfl) (by kernel_rfl) (by kernel_rfl) (fun _ _ _ h => h) (Or.inl ⟨by rfl, ?_⟩) (by assumption) ?_
    rotate_left
    · (intro w hSw; (try dsimp only at hSw); go_simp; try with_reducible rfl)
    (try simp only [Act.put, List.setIfInBounds_toArray, List.set_cons_zero, List.set_cons_succ])
    refine step_one 3 rfl (by kernel_rfl) (fun K hK => ?_)
    clear hHeld
    go_simp
    refine (HC.out.callBytes 16 (by omega)).mono ?_
    rintro e wy2 ⟨rfl, hc2, hm2⟩
    replace HM := Lib.hid (show MemG w g [blkE wd1.heap.size 5 ((pickB l (nextP l p 3) 16).map u8v), blkE P3 29 (.bool true :: (List.replicate 16 (0 : UInt8)).map u8v), blkE w.heap.size 29 addr0.cells] wy2 from HM.out.join hgl hm2)
    replace HC := Lib.hid hc2
    clear hc2 hm2
    generalize wd1.heap.size = PB at HM ⊢
    go_wp2_with fail
    refine hK.out _ _ (trivial) (fun hHeld => ?_)
    clear hK K
    (try simp only [Act.put, List.setIfInBounds_toArray, List.set_cons_zero, List.set_cons_succ])
    refine step_one 4 rfl (by kernel_rfl) (fun K hK => ?_)
    clear hHeld
    refine step_copy_bytes _ rfl (.tmp 11) (.tmp 13) 22 22 (by rfl) 5 Try.underlying22 (by kernel_rfl) P3 1 16 16 ⟨PB, 0, none⟩ 16 16 (by rfl) (by rfl) (.bool true :: (List.replicate 16 (0 : UInt8)).map u8v) 29 (HM.out.blk 1 rfl) ((pickB l (nextP l p 3) 16).map u8v) (by rw [List.length_map, HBL.out]; rfl) (fun q v hv => by rw [Go.WideShapes.add_plain]; exact (HM.out.blk 0 rfl).all q v hv) (by rw [List.length_map, HBL.out]; simp) (u8v_one _) ?_
    intro wy3 hb hg
    replace hb : Blk wy3 P3 29 (AddrM.mk true (pickB l (nextP l p 3) 16)).cells := by rw [← HPUT.out]; exact hb
    replace HM := Lib.hid (show MemG w g [blkE PB 5 ((pickB l (nextP l p 3) 16).map u8v), blkE P3 29 (AddrM.mk true (pickB l (nextP l p 3) 16)).cells, blkE w.heap.size 29 addr0.cells] wy3 from HM.out.put 1 rfl _ hg hb)
    replace HC := Lib.hid (HC.out.put hg HPG.out)
    clear hb hg
    refine hK.out _ _ (trivial) (fun hHeld => ?_)
    clear hK K
    (try simp only [Act.put, List.setIfInBounds_toArray, List.set_cons_zero, List.set_cons_succ])
    refine wpAnyH_done (by kernel_rfl) ?_ _
    clear hHeld
    revert wy3
    intro wq HM HC
    have HOK := Lib.hid (show (AddrM.mk true (pickB l (nextP l p 3) 16)).ok from HBL.out)
    have fx := ((HM.out.blk 1 rfl).cell (1 + 0)).trans (AddrM.ip_cell _ HOK.out 0 (by omega))
    have zx := (HM.out.blk 1 rfl).frozen (1 + 0)
    generalize ((AddrM.mk true (pickB l (nextP l p 3) 16)).ip.getD 0 0) = x0 at fx
    have HN := Lib.hid (show MemG w g [blkE PB 5 ((pickB l (nextP l p 3) 16).map u8v), blkE P3 29 (AddrM.mk true ((pickB l (nextP l p 3) 16).set 0 253)).cells, blkE w.heap.size 29 addr0.cells] (wq.setCell ⟨P3, 1 + 0, none⟩ (.int .u8 253)) from by have h := HM.out.setCell 1 rfl (1 + 0) (u8v 253); rw [AddrM.set_cell] at h; exact h)
    replace HC := Lib.hid (show CodesAt (wq.setCell ⟨P3, 1 + 0, none⟩ (.int .u8 253)) g A n c l B (nextP l (nextP l p 3) 256) from HC.out.put (W' := wq.setCell ⟨P3, 1 + 0, none⟩ (.int .u8 253)) (b := P3) ⟨rfl, rfl, rfl, by simp [World.setCell], fun k _ hne => Below.heap_setCell _ _ _ _ (fun e => hne (by rw [e]))⟩ HPG.out)
    rw [Nat.add_zero] at fx zx HN HC
    clear HM
    go_upto_region 5 with fail
    generalize wq.setCell ⟨P3, 1, none⟩ (.int .u8 253) = w5 at HN HC ⊢
    clear fx zx
    rw [HR.out.1] at HN
    rw [HR.out.2] at HC
    have HCL := Lib.hid (addr_cellsOf _ HAO.out)
    have HAL := Lib.hid (AddrM.cells_length HAO.out)
    obtain ⟨ca, hca⟩ : ∃ x, (codeA l p).cells.toArray = x := ⟨_, rfl⟩
    have HCC := Lib.hid hca
    clear hca
    go_wp2_with (first | (refine wpList_load_obj rfl 29 (.tmp 3) rfl P3 0 rfl (codeA l p).cells (HN.out.blk 1 rfl).all _ Try.underlying29 rfl HCL.out ?_; rw [HCC.out]) | (refine wpList_store_blk rfl 29 (.tmp 2) (.tmp 17) rfl w.heap.size (codeA l p).cells rfl (by show Value.agg ca = _; rw [HCC.out]) 29 addr0.cells (HN.out.blk 2 rfl) HCL.out (by rw [HAL.out]; rfl) (AddrM.one _) ?_; intro w9 hb9 hg9))
    exact bodyPost_ret (results_obj rfl _ _ w.heap.size 29 (codeA l p).cells _ rfl hb9 Try.underlying29 rfl HCL.out) rfl ⟨rfl, HC.out.put hg9 hgl, (HN.out.put 2 rfl _ hg9 hb9).2⟩
  | false =>
    obtain ⟨u1, hu1⟩ : ∃ u, UInt8.ofNat (nextV l (nextP l p 3) 4) = u := ⟨_, rfl⟩
    obtain ⟨u2, hu2⟩ : ∃ u, UInt8.ofNat (nextV l (nextP l (nextP l p 3) 4) 4) = u := ⟨_, rfl⟩
    obtain ⟨u3, hu3⟩ : ∃ u, UInt8.ofNat (nextV l (nextP l (nextP l (nextP l p 3) 4) 4) 256) = u := ⟨_, rfl⟩
    have hF : fourB l (nextP l p 3) = [10, u1, u2, u3] := by rw [fourB, hu1, hu2, hu3]
    have HR := Lib.hid (show (AddrM.mk false (putL (List.replicate 16 0) 0 [10, u1, u2, u3])) = codeA l p ∧ nextP l (nextP l (nextP l (nextP l p 3) 4) 4) 256 = codeAP l p from by rw [codeA, codeAP, HSX.out, ← hF]; exact ⟨rfl, rfl⟩)
    have HPUT := Lib.hid (show setL (.bool false :: (List.replicate 16 (0 : UInt8)).map u8v) 1 (([10, u1, u2, u3] : List UInt8).map u8v) = (AddrM.mk false (putL (List.replicate 16 0) 0 ([10, u1, u2, u3] : List UInt8))).cells from addr_put false [10, u1, u2, u3])
    have hw1 : IntKind.u8.wrap (nextV l (nextP l p 3) 4 : Int) = (u1.toNat : Int) := by rw [← hu1]; exact codeByte_wrap _
    have hw2 : IntKind.u8.wrap (nextV l (nextP l (nextP l p 3) 4) 4 : Int) = (u2.toNat : Int) := by rw [← hu2]; exact codeByte_wrap _
    have hw3 : IntKind.u8.wrap (nextV l (nextP l (nextP l (nextP l p 3) 4) 4) 256 : Int) = (u3.toNat : Int) := by rw [← hu3]; exact codeByte_wrap _
    have HW := Lib.hid (And.intro hw1 (And.intro hw2 hw3))
    clear hw1 hw2 hw3 hu1 hu2 hu3 hF
    go_upto_region 6 with fail
    clear f6
    refine wp_region_held_drew (S := fun _ => True) (by kernel_rfl) (trivial) (fun hHeld => ?_)
    replace HM := Lib.hid HM.out.drew
    replace HC := Lib.hid (HC.out.below ((Below.refl _ _).drew))
    generalize w3.drew = wd1 at HM HC hHeld ⊢
    refine take_first (v := ?_) 0 rfl (by kernel_rfl) (by kernel_rfl) (by kernel_rfl) (fun _ _ _ h => h) (Or.inl ⟨by rfl, ?_⟩) (by assumption) ?_
    rotate_left
    · (intro w hSw; (try dsimp only at hSw); go_simp; try with_reducible rfl)
    (try simp only [Act.put, List.setIfInBounds_toArray, List.set_cons_zero, List.set_cons_succ])
    refine take_first (v := ?_) 1 rfl (by kernel_rfl) (by kernel_rfl) (by kernel_rfl) (fun _ _ _ h => h) (Or.inl ⟨by rfl, ?_⟩) (by assumption) ?_
    rotate_left
    · (intro w hSw; (try dsimp only at hSw); go_simp; try with_reducible rfl)
    (try simp only [Act.put, List.setIfInBounds_toArray, List.set_cons_zero, List.set_cons_succ])
    refine take_first (v := ?_) 2 rfl (by kernel_rfl) (by kernel_rfl) (by kernel_rfl) (fun _ _ _ h => h) (Or.inl ⟨by rfl, ?_⟩) (by assumption) ?_
    rotate_left
    · (intro w hSw; (try dsimp only at hSw); go_simp; try with_reducible rfl)
    (try simp only [Act.put, List.setIfInBounds_toArray, List.set_cons_zero, List.set_cons_succ])
    refine take_first (v := ?_) 5 rfl (by kernel_rfl) (by kernel_rfl) (by kernel_rfl) (fun _ _ _ h => h) (Or.inl ⟨by rfl, ?_⟩) (by assumption) ?_
    rotate_left
    · (intro w hSw; (try dsimp only at hSw); go_simp; try with_reducible rfl)
    (try simp only [Act.put, List.setIfInBounds_toArray, List.set_cons_zero, List.set_cons_succ])
    refine take_first (v := ?_) 8 rfl (by kernel_rfl) (by kernel_rfl) (by kernel_rfl) (fun _ _ _ h => h) (Or.inl ⟨by rfl, ?_⟩) (by assumption) ?_
    rotate_left
    · (intro w hSw; (try dsimp only at hSw); go_simp; try with_reducible rfl)
    (try simp only [Act.put, List.setIfInBounds_toArray, List.set_cons_zero, List.set_cons_succ])
    refine step_one 3 rfl (by kernel_rfl) (fun K hK => ?_)
    clear hHeld
    go_simp
    refine (HC.out.callNext 4 (by omega)).mono ?_
    rintro e wy2 ⟨rfl, hc2, hg2⟩
    replace HM := Lib.hid (show MemG w g [blkE P3 29 (.bool false :: (List.replicate 16 (0 : UInt8)).map u8v), blkE w.heap.size 29 addr0.cells] wy2 from HM.out.next hgl hg2)
    replace HC := Lib.hid hc2
    clear hc2 hg2
    go_wp2_with fail
    refine hK.out _ _ (trivial) (fun hHeld => ?_)
    clear hK K
    (try simp only [Act.put, List.setIfInBounds_toArray, List.set_cons_zero, List.set_cons_succ])
    refine take_first (v := ?_) 4 rfl (by kernel_rfl) (by kernel_rfl) (by kernel_rfl) (fun _ _ _ h => h) (Or.inl ⟨by rfl, ?_⟩) (by assumption) ?_
    rotate_left
    · (intro w hSw; (try dsimp only at hSw); have e1 := HW.out.1; go_simp; try with_reducible rfl)
    (try simp only [Act.put, List.setIfInBounds_toArray, List.set_cons_zero, List.set_cons_succ])
    refine step_one 6 rfl (by kernel_rfl) (fun K hK => ?_)
    clear hHeld
    go_simp
    refine (HC.out.callNext 4 (by omega)).mono ?_
    rintro e wy3 ⟨rfl, hc2, hg2⟩
    replace HM := Lib.hid (show MemG w g [blkE P3 29 (.bool false :: (List.replicate 16 (0 : UInt8)).map u8v), blkE w.heap.size 29 addr0.cells] wy3 from HM.out.next hgl hg2)
    replace HC := Lib.hid hc2
    clear hc2 hg2
    go_wp2_with fail
    refine hK.out _ _ (trivial) (fun hHeld => ?_)
    clear hK K
    (try simp only [Act.put, List.setIfInBounds_toArray, List.set_cons_zero, List.set_cons_succ])
    refine take_first (v := ?_) 7 rfl (by kernel_rfl) (by kernel_rfl) (by kernel_rfl) (fun _ _ _ h => h) (Or.inl ⟨by rfl, ?_⟩) (by assumption) ?_
    rotate_left
    · (intro w hSw; (try dsimp only at hSw); have e1 := HW.out.2.1; go_simp; try with_reducible rfl)
    (try simp only [Act.put, List.setIfInBounds_toArray, List.set_cons_zero, List.set_cons_succ])
    refine step_one 9 rfl (by kernel_rfl) (fun K hK => ?_)
    clear hHeld
    go_simp
    refine (HC.out.callNext 256 (by omega)).mono ?_
    rintro e wy4 ⟨rfl, hc2, hg2⟩
    replace HM := Lib.hid (show MemG w g [blkE P3 29 (.bool false :: (List.replicate 16 (0 : UInt8)).map u8v), blkE w.heap.size 29 addr0.cells] wy4 from HM.out.next hgl hg2)
    replace HC := Lib.hid hc2
    clear hc2 hg2
    go_wp2_with fail
    refine hK.out _ _ (trivial) (fun hHeld => ?_)
    clear hK K
    (try simp only [Act.put, List.setIfInBounds_toArray, List.set_cons_zero, List.set_cons_succ])
    refine take_first (v := ?_) 10 rfl (by kernel_rfl) (by kernel_rfl) (by kernel_rfl) (fun _ _ _ h => h) (Or.inl ⟨by rfl, ?_⟩) (by assumption) ?_
    rotate_left
    · (intro w hSw; (try dsimp only at hSw); have e1 := HW.out.2.2; go_simp; try with_reducible rfl)
    (try simp only [Act.put, List.setIfInBounds_toArray, List.set_cons_zero, List.set_cons_succ])
    refine step_one 11 rfl (by kernel_rfl) (fun K hK => ?_)
    clear hHeld
    go_simp
    replace HM := Lib.hid (show MemG w g [blkE wy4.heap.size 5 (([10, u1, u2, u3] : List UInt8).map u8v), blkE P3 29 (.bool false :: (List.replicate 16 (0 : UInt8)).map u8v), blkE w.heap.size 29 addr0.cells] (wy4.alloc (.cells #[.int .u8 10, .int .u8 (u1.toNat : Int), .int .u8 (u2.toNat : Int), .int .u8 (u3.toNat : Int)] 5)) from HM.out.alloc rfl 5 #[.int .u8 10, .int .u8 (u1.toNat : Int), .int .u8 (u2.toNat : Int), .int .u8 (u3.toNat : Int)] (([10, u1, u2, u3] : List UInt8).map u8v) rfl)
    replace HC := Lib.hid (HC.out.below ((Below.refl _ _).alloc (Nat.le_refl _) (.cells #[.int .u8 10, .int .u8 (u1.toNat : Int), .int .u8 (u2.toNat : Int), .int .u8 (u3.toNat : Int)] 5)))
    generalize wy4.alloc (.cells #[.int .u8 10, .int .u8 (u1.toNat : Int), .int .u8 (u2.toNat : Int), .int .u8 (u3.toNat : Int)] 5) = wy5 at HM HC ⊢
    generalize wy4.heap.size = PB at HM ⊢
    refine hK.out _ _ (trivial) (fun hHeld => ?_)
    clear hK K
    (try simp only [Act.put, List.setIfInBounds_toArray, List.set_cons_zero, List.set_cons_succ])
    refine step_one 12 rfl (by kernel_rfl) (fun K hK => ?_)
    clear hHeld
    refine step_copy_bytes _ rfl (.tmp 19) (.tmp 29) 22 22 (by rfl) 5 Try.underlying22 (by kernel_rfl) P3 1 4 16 ⟨PB, 0, none⟩ 4 4 (by rfl) (by rfl) (.bool false :: (List.replicate 16 (0 : UInt8)).map u8v) 29 (HM.out.blk 1 rfl) ((([10, u1, u2, u3] : List UInt8)).map u8v) (by rw [List.length_map, show ([10, u1, u2, u3] : List UInt8).length = 4 from rfl]; rfl) (fun q v hv => by rw [Go.WideShapes.add_plain]; exact (HM.out.blk 0 rfl).all q v hv) (by rw [List.length_map, show ([10, u1, u2, u3] : List UInt8).length = 4 from rfl]; simp) (u8v_one _) ?_
    intro wy6 hb hg
    replace hb : Blk wy6 P3 29 (AddrM.mk false (putL (List.replicate 16 0) 0 ([10, u1, u2, u3] : List UInt8))).cells := by rw [← HPUT.out]; exact hb
    replace HM := Lib.hid (show MemG w g [blkE PB 5 (([10, u1, u2, u3] : List UInt8).map u8v), blkE P3 29 (AddrM.mk false (putL (List.replicate 16 0) 0 ([10, u1, u2, u3] : List UInt8))).cells, blkE w.heap.size 29 addr0.cells] wy6 from HM.out.put 1 rfl _ hg hb)
    replace HC := Lib.hid (HC.out.put hg HPG.out)
    clear hb hg
    refine hK.out _ _ (trivial) (fun hHeld => ?_)
    clear hK K
    (try simp only [Act.put, List.setIfInBounds_toArray, List.set_cons_zero, List.set_cons_succ])
    refine wpAnyH_done (by kernel_rfl) ?_ _
    clear hHeld
    revert wy6
    intro w5 HM HC
    rw [HR.out.1] at HM
    rw [HR.out.2] at HC
    have HCL := Lib.hid (addr_cellsOf _ HAO.out)
    have HAL := Lib.hid (AddrM.cells_length HAO.out)
    obtain ⟨ca, hca⟩ : ∃ x, (codeA l p).cells.toArray = x := ⟨_, rfl⟩
    have HCC := Lib.hid hca
    clear hca
    go_wp2_with (first | (refine wpList_load_obj rfl 29 (.tmp 3) rfl P3 0 rfl (codeA l p).cells (HM.out.blk 1 rfl).all _ Try.underlying29 rfl HCL.out ?_; rw [HCC.out]) | (refine wpList_store_blk rfl 29 (.tmp 2) (.tmp 31) rfl w.heap.size (codeA l p).cells rfl (by show Value.agg ca = _; rw [HCC.out]) 29 addr0.cells (HM.out.blk 2 rfl) HCL.out (by rw [HAL.out]; rfl) (AddrM.one _) ?_; intro w9 hb9 hg9))
    exact bodyPost_ret (results_obj rfl _ _ w.heap.size 29 (codeA l p).cells _ rfl hb9 Try.underlying29 rfl HCL.out) rfl ⟨rfl, HC.out.put hg9 hgl, (HM.out.put 2 rfl _ hg9 hb9).2⟩
end Go.Proofs.Ytdpdalkeafkhkaa
