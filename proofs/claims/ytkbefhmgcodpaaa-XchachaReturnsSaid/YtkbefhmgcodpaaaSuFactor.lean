/-
  The contracts of the program's factor and numberOf.
-/
import Derived.Test.YtkbefhmgcodpaaaSuOps
import Derived.Test.YtkbefhmgcodpaaaSuMath
import Derived.Test.YtkbefhmgcodpaaaLit
namespace Go.Proofs.Ytkbefhmgcodpaaa
open Go.RowKit

theorem cells32k (l : List UInt8) (h : l.length = 32) : (Try.prog.info? 23).map (·.size) = some (l.map u8v).length := by
  rw [List.length_map, h]; kernel_rfl
theorem and_word (a m : Nat) (ha : a < 18446744073709551616) (hm : m < 18446744073709551616) : bits BinOp.and IntKind.u64 (a : Int) (m : Int) = ((a &&& m : Nat) : Int) := u64_and_nat _ _ ha hm

set_option maxRecDepth 100000 in
set_option maxHeartbeats 2000000 in
theorem factor_any (k : List UInt8) (hk : k.length = 32) (w : World) :
    Calls Try.prog 50 #[.agg (k.map u8v).toArray] w fun e w' => e = .returned (.agg ((facN k).map lv).toArray) ∧ Below w.heap.size w w' := by
  obtain ⟨ck, hck⟩ : ∃ ck, (k.map u8v).toArray = ck := ⟨_, rfl⟩
  rw [hck]
  have hb0 : Blk (w.alloc (.cells ck 23)) w.heap.size 23 (k.map u8v) := by rw [← hck]; exact Blk.new w _ _
  have h1 := hb0.alloc (.cells z5.toArray 76)
  have h2 : Blk ((w.alloc (.cells ck 23)).alloc (.cells z5.toArray 76)) (w.heap.size + 1) 76 z5 := Blk.new' _ (by simp) _ _
  have h3 : Below w.heap.size w ((w.alloc (.cells ck 23)).alloc (.cells z5.toArray 76)) := ((Below.refl _ _).alloc (Nat.le_refl _) _).alloc (by simp) _
  have r1 := h1.rd 0 8 (by omega)
  have r2 := h1.rd 8 8 (by omega)
  rw [List.drop_zero] at r1
  have sc := split_any (lowW k &&& 1152921487695413247) (highW k &&& 1152921487695413244) 0 (rN_zero_words k).1 (rN_zero_words k).2 (by omega)
  have a1 := and_word (lowW k) 1152921487695413247 (take8_lt _) (by omega)
  have a2 := and_word (highW k) 1152921487695413244 (take8_lt _) (by omega)
  rw [show ((1152921487695413247 : Nat) : Int) = 1152921487695413247 from rfl] at a1
  rw [show ((1152921487695413244 : Nat) : Int) = 1152921487695413244 from rfl] at a2
  rw [z5_arr] at h1 h2 h3 r1 r2
  obtain ⟨lz, hlz⟩ : ∃ lz, facN k = lz := ⟨_, rfl⟩
  rw [show splitN (lowW k &&& 1152921487695413247) (highW k &&& 1152921487695413244) 0 = lz from hlz] at sc
  have HZL := Lib.hid (show lz.length = 5 by rw [← hlz, facN, splitN_length])
  generalize lowW k &&& 1152921487695413247 = x at sc a1
  generalize highW k &&& 1152921487695413244 = y at sc a2
  rw [hlz]
  obtain ⟨cz, hcz⟩ : ∃ cz, (lz.map lv).toArray = cz := ⟨_, rfl⟩
  rw [hcz] at sc
  have e1 : numL (((k.take 8)).take 8) = lowW k := by rw [List.take_take]; rfl
  have e2 : numL ((((k.drop 8).take 8)).take 8) = highW k := by rw [List.take_take]; rfl
  have HR := Lib.hid (And.intro r1 (And.intro r2 (And.intro e1 e2)))
  have HSC := Lib.hid (And.intro sc hcz)
  have HA := Lib.hid (And.intro a1 a2)
  have HB := Lib.hid (And.intro h2 h3)
  clear r1 r2 e1 e2 sc hcz a1 a2 h1 h2 h3 hb0 hck hlz
  generalize lowW k = lw at HR HA
  generalize highW k = hw at HR HA
  go_enter Try.func50, Try.ntmps50
  go_upto_region 1 with fail
  generalize ((w.alloc (.cells ck 23)).alloc (.cells #[.int .u64 0, .int .u64 0, .int .u64 0, .int .u64 0, .int .u64 0] 76)) = w1 at HR HB ⊢
  go_wp2_with fail
  refine (readLittle_any _ _ 8 32 _ (by omega) _ HR.out.1).mono ?_
  rintro e w2 ⟨rfl, rfl⟩
  rw [HR.out.2.2.1]
  go_wp2_with fail
  refine (readLittle_any _ _ 8 24 _ (by omega) _ HR.out.2.1).mono ?_
  rintro e w2 ⟨rfl, rfl⟩
  rw [HR.out.2.2.2]
  go_upto_region 3 with fail
  clear HR
  have ha1 := HA.out.1
  have ha2 := HA.out.2
  go_wp2_with fail
  (try rw [ha1, ha2])
  refine (HSC.out.1 _).mono ?_
  rintro e w3 ⟨rfl, hb3⟩
  have HB3 := Lib.hid (And.intro (HB.out.1.below hb3 HB.out.1.lt) (HB.out.2.trans (hb3.mono HB.out.2.size)))
  clear hb3 HB ha1 ha2 HA
  go_wp2_with (refine wpList_store_blk rfl 76 (.tmp 2) (.tmp 13) rfl (w.heap.size + 1) (lz.map lv) rfl (by show Value.agg cz = _; rw [HSC.out.2]) 76 z5 HB3.out.1 (cells5 lz HZL.out) (by rw [List.length_map, HZL.out]; rfl) (lv_one _) ?_; intro w9 hb9 hg9)
  exact bodyPost_ret (results_blk rfl _ _ (w.heap.size + 1) 76 (lz.map lv) 5 51 rfl hb9 Try.underlying76 (cells5 lz HZL.out)) rfl ⟨rfl, below_blk HB3.out.2 hg9 (by omega)⟩

end Go.Proofs.Ytkbefhmgcodpaaa
