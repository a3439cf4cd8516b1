/-
  The contract of the reference's quarter round. The contract of the reference's Core: ten double rounds of the words. The contract of codec.Little: for a size from 1 to 8 it returns a new slice with the size lowest bytes of n, the least significant one first; for any other size nothing. The contract of chacha.Block: the words of the initial state plus those of Core of it, each as four bytes. The contract of chacha.Xor: the data, combined with the blocks for counter, counter + 1, .. The contract of burrowcase.Cut (at most the first n bytes). What the walks of layer 2's laws keep: the key and the nonce in blocks of their own, and slices that read as bytes. And the contract of burrowcase.Cut. The contract of the reference's state: the constants, the words of the key and those of sixteen further bytes. No statement is proved here.
-/
import Derived.Outline
import Derived.Test.YtlddafkikkaonaaGreatDoorMacsRepliesB6
namespace Go.Proofs.YtlddafkikkaonaaGreatDoor
open Go.RowKit
set_option maxRecDepth 100000 in
set_option maxHeartbeats 8000000 in
theorem refQuarter_any (l : List UInt32) (hl : l.length = 16) (a b c d : Nat) (ha : a < 16) (hb : b < 16) (hc : c < 16) (hd : d < 16) (w : World) :
 Calls Tryz.prog 77 #[.agg (l.map u32v).toArray, .int .i64 (a : Int), .int .i64 (b : Int), .int .i64 (c : Int), .int .i64 (d : Int)] w fun e w' => e = .returned (.agg ((quarterW l a b c d).map u32v).toArray) ∧ Below w.heap.size w w' := by
 obtain ⟨cl, hcl⟩ : ∃ cl, (l.map u32v).toArray = cl := ⟨_, rfl⟩
 rw [hcl]
 have HB0 := Lib.hid (show Blk (w.alloc (.cells cl 86)) w.heap.size 86 (l.map u32v) by rw [← hcl]; exact Blk.new w _ _)
 obtain ⟨lz, hlz⟩ : ∃ lz, quarterW l a b c d = lz := ⟨_, rfl⟩
 rw [hlz]
 have HLZ := Lib.hid hlz
 have HL := Lib.hid hl
 clear hlz hl
 go_enter Tryz.func77, Tryz.ntmps77
 go_upto_region 1 with fail
 have hblk := HB0.out.alloc (.cells z16.toArray 86)
 have hz : Blk ((w.alloc (.cells cl 86)).alloc (.cells z16.toArray 86)) (w.heap.size + 1) 86 z16 := Blk.new' _ (by simp) _ _
 have hbel : Below w.heap.size w ((w.alloc (.cells cl 86)).alloc (.cells z16.toArray 86)) := ((Below.refl _ _).alloc (Nat.le_refl _) _).alloc (by simp) _
 rw [z16_arr] at hblk hz hbel
 clear HB0 hcl
 generalize (w.alloc (.cells cl 86)).alloc (.cells zw16_ 86) = W1 at hblk hz hbel ⊢
 go_cut [] (fun wx => Blk wx w.heap.size 86 ((addW l a b).map u32v) ∧ Blk wx (w.heap.size + 1) 86 z16 ∧ Below w.heap.size w wx)
 case first =>
  have fx := hblk.word a (by have := HL.out; omega)
  have fy := hblk.word b (by have := HL.out; omega)
  have zx := hblk.frozen a
  have R := Lib.hid (fun q : Nat => And.intro ((hblk.drewN q).setWord a (wd l a + wd l b)) (And.intro ((hz.drewN q).far (p := ⟨w.heap.size, a, none⟩) (by simp) (.int .u32 ((wd l a + wd l b).toNat : Int))) ((below_drewN hbel q).setCell (p := ⟨w.heap.size, a, none⟩) (Nat.le_refl _) (.int .u32 ((wd l a + wd l b).toNat : Int)))))
  clear hblk hbel hz
  go_region
  simp only [u32_sum]
  go_wp2
  go_meet
  exact ⟨(R.out 0).1, (R.out 0).2.1, below_drewN (R.out 0).2.2 1⟩
 case rest =>
  obtain ⟨hblk, hz, hbel⟩ := hcut
  obtain ⟨l1, hl1⟩ : ∃ l1, addW l a b = l1 := ⟨_, rfl⟩
  rw [hl1] at hblk
  have E1 := Lib.hid hl1
  have HL := Lib.hid (show l1.length = 16 by rw [← hl1, addW_length]; exact HL.out)
  clear hl1
  go_upto_region 2 with fail
  go_cut [] (fun wx => Blk wx w.heap.size 86 ((mixW l1 d a 16).map u32v) ∧ Blk wx (w.heap.size + 1) 86 z16 ∧ Below w.heap.size w wx)
  case first =>
   have fx := hblk.word d (by have := HL.out; omega)
   have fy := hblk.word a (by have := HL.out; omega)
   have zx := hblk.frozen d
   have R := Lib.hid (fun q : Nat => And.intro ((hblk.drewN q).setWord d (rotl (wd l1 d ^^^ wd l1 a) 16)) (And.intro ((hz.drewN q).far (p := ⟨w.heap.size, d, none⟩) (by simp) (.int .u32 ((rotl (wd l1 d ^^^ wd l1 a) 16).toNat : Int))) ((below_drewN hbel q).setCell (p := ⟨w.heap.size, d, none⟩) (Nat.le_refl _) (.int .u32 ((rotl (wd l1 d ^^^ wd l1 a) 16).toNat : Int)))))
   have cx := fun w' : World => refLeft_any (wd l1 d ^^^ wd l1 a) 16 (by omega) (by omega) w'
   simp only [← u32_xor] at cx
   clear hblk hbel hz
   go_region_with ((go_at_call 95; refine (cx _).mono ?_; rintro e wa ⟨rfl, qa, rfl⟩))
   all_goals (go_wp2; go_meet; exact R.out _)
  case rest =>
   obtain ⟨hblk, hz, hbel⟩ := hcut
   obtain ⟨l2, hl2⟩ : ∃ l2, mixW l1 d a 16 = l2 := ⟨_, rfl⟩
   rw [hl2] at hblk
   have E2 := Lib.hid hl2
   have HL := Lib.hid (show l2.length = 16 by rw [← hl2, mixW_length]; exact HL.out)
   clear hl2
   go_upto_region 3 with fail
   go_cut [] (fun wx => Blk wx w.heap.size 86 ((addW l2 c d).map u32v) ∧ Blk wx (w.heap.size + 1) 86 z16 ∧ Below w.heap.size w wx)
   case first =>
    have fx := hblk.word c (by have := HL.out; omega)
    have fy := hblk.word d (by have := HL.out; omega)
    have zx := hblk.frozen c
    have R := Lib.hid (fun q : Nat => And.intro ((hblk.drewN q).setWord c (wd l2 c + wd l2 d)) (And.intro ((hz.drewN q).far (p := ⟨w.heap.size, c, none⟩) (by simp) (.int .u32 ((wd l2 c + wd l2 d).toNat : Int))) ((below_drewN hbel q).setCell (p := ⟨w.heap.size, c, none⟩) (Nat.le_refl _) (.int .u32 ((wd l2 c + wd l2 d).toNat : Int)))))
    clear hblk hbel hz
    go_region
    simp only [u32_sum]
    go_wp2
    go_meet
    exact ⟨(R.out 0).1, (R.out 0).2.1, below_drewN (R.out 0).2.2 1⟩
   case rest =>
    obtain ⟨hblk, hz, hbel⟩ := hcut
    obtain ⟨l3, hl3⟩ : ∃ l3, addW l2 c d = l3 := ⟨_, rfl⟩
    rw [hl3] at hblk
    have E3 := Lib.hid hl3
    have HL := Lib.hid (show l3.length = 16 by rw [← hl3, addW_length]; exact HL.out)
    clear hl3
    go_upto_region 4 with fail
    go_cut [] (fun wx => Blk wx w.heap.size 86 ((mixW l3 b c 12).map u32v) ∧ Blk wx (w.heap.size + 1) 86 z16 ∧ Below w.heap.size w wx)
    case first =>
     have fx := hblk.word b (by have := HL.out; omega)
     have fy := hblk.word c (by have := HL.out; omega)
     have zx := hblk.frozen b
     have R := Lib.hid (fun q : Nat => And.intro ((hblk.drewN q).setWord b (rotl (wd l3 b ^^^ wd l3 c) 12)) (And.intro ((hz.drewN q).far (p := ⟨w.heap.size, b, none⟩) (by simp) (.int .u32 ((rotl (wd l3 b ^^^ wd l3 c) 12).toNat : Int))) ((below_drewN hbel q).setCell (p := ⟨w.heap.size, b, none⟩) (Nat.le_refl _) (.int .u32 ((rotl (wd l3 b ^^^ wd l3 c) 12).toNat : Int)))))
     have cx := fun w' : World => refLeft_any (wd l3 b ^^^ wd l3 c) 12 (by omega) (by omega) w'
     simp only [← u32_xor] at cx
     clear hblk hbel hz
     go_region_with ((go_at_call 95; refine (cx _).mono ?_; rintro e wa ⟨rfl, qa, rfl⟩))
     all_goals (go_wp2; go_meet; exact R.out _)
    case rest =>
     obtain ⟨hblk, hz, hbel⟩ := hcut
     obtain ⟨l4, hl4⟩ : ∃ l4, mixW l3 b c 12 = l4 := ⟨_, rfl⟩
     rw [hl4] at hblk
     have E4 := Lib.hid hl4
     have HL := Lib.hid (show l4.length = 16 by rw [← hl4, mixW_length]; exact HL.out)
     clear hl4
     go_upto_region 5 with fail
     go_cut [] (fun wx => Blk wx w.heap.size 86 ((addW l4 a b).map u32v) ∧ Blk wx (w.heap.size + 1) 86 z16 ∧ Below w.heap.size w wx)
     case first =>
      have fx := hblk.word a (by have := HL.out; omega)
      have fy := hblk.word b (by have := HL.out; omega)
      have zx := hblk.frozen a
      have R := Lib.hid (fun q : Nat => And.intro ((hblk.drewN q).setWord a (wd l4 a + wd l4 b)) (And.intro ((hz.drewN q).far (p := ⟨w.heap.size, a, none⟩) (by simp) (.int .u32 ((wd l4 a + wd l4 b).toNat : Int))) ((below_drewN hbel q).setCell (p := ⟨w.heap.size, a, none⟩) (Nat.le_refl _) (.int .u32 ((wd l4 a + wd l4 b).toNat : Int)))))
      clear hblk hbel hz
      go_region
      simp only [u32_sum]
      go_wp2
      go_meet
      exact ⟨(R.out 0).1, (R.out 0).2.1, below_drewN (R.out 0).2.2 1⟩
     case rest =>
      obtain ⟨hblk, hz, hbel⟩ := hcut
      obtain ⟨l5, hl5⟩ : ∃ l5, addW l4 a b = l5 := ⟨_, rfl⟩
      rw [hl5] at hblk
      have E5 := Lib.hid hl5
      have HL := Lib.hid (show l5.length = 16 by rw [← hl5, addW_length]; exact HL.out)
      clear hl5
      go_upto_region 6 with fail
      go_cut [] (fun wx => Blk wx w.heap.size 86 ((mixW l5 d a 8).map u32v) ∧ Blk wx (w.heap.size + 1) 86 z16 ∧ Below w.heap.size w wx)
      case first =>
       have fx := hblk.word d (by have := HL.out; omega)
       have fy := hblk.word a (by have := HL.out; omega)
       have zx := hblk.frozen d
       have R := Lib.hid (fun q : Nat => And.intro ((hblk.drewN q).setWord d (rotl (wd l5 d ^^^ wd l5 a) 8)) (And.intro ((hz.drewN q).far (p := ⟨w.heap.size, d, none⟩) (by simp) (.int .u32 ((rotl (wd l5 d ^^^ wd l5 a) 8).toNat : Int))) ((below_drewN hbel q).setCell (p := ⟨w.heap.size, d, none⟩) (Nat.le_refl _) (.int .u32 ((rotl (wd l5 d ^^^ wd l5 a) 8).toNat : Int)))))
       have cx := fun w' : World => refLeft_any (wd l5 d ^^^ wd l5 a) 8 (by omega) (by omega) w'
       simp only [← u32_xor] at cx
       clear hblk hbel hz
       go_region_with ((go_at_call 95; refine (cx _).mono ?_; rintro e wa ⟨rfl, qa, rfl⟩))
       all_goals (go_wp2; go_meet; exact R.out _)
      case rest =>
       obtain ⟨hblk, hz, hbel⟩ := hcut
       obtain ⟨l6, hl6⟩ : ∃ l6, mixW l5 d a 8 = l6 := ⟨_, rfl⟩
       rw [hl6] at hblk
       have E6 := Lib.hid hl6
       have HL := Lib.hid (show l6.length = 16 by rw [← hl6, mixW_length]; exact HL.out)
       clear hl6
       go_upto_region 7 with fail
       go_cut [] (fun wx => Blk wx w.heap.size 86 ((addW l6 c d).map u32v) ∧ Blk wx (w.heap.size + 1) 86 z16 ∧ Below w.heap.size w wx)
       case first =>
        have fx := hblk.word c (by have := HL.out; omega)
        have fy := hblk.word d (by have := HL.out; omega)
        have zx := hblk.frozen c
        have R := Lib.hid (fun q : Nat => And.intro ((hblk.drewN q).setWord c (wd l6 c + wd l6 d)) (And.intro ((hz.drewN q).far (p := ⟨w.heap.size, c, none⟩) (by simp) (.int .u32 ((wd l6 c + wd l6 d).toNat : Int))) ((below_drewN hbel q).setCell (p := ⟨w.heap.size, c, none⟩) (Nat.le_refl _) (.int .u32 ((wd l6 c + wd l6 d).toNat : Int)))))
        clear hblk hbel hz
        go_region
        simp only [u32_sum]
        go_wp2
        go_meet
        exact ⟨(R.out 0).1, (R.out 0).2.1, below_drewN (R.out 0).2.2 1⟩
       case rest =>
        obtain ⟨hblk, hz, hbel⟩ := hcut
        obtain ⟨l7, hl7⟩ : ∃ l7, addW l6 c d = l7 := ⟨_, rfl⟩
        rw [hl7] at hblk
        have E7 := Lib.hid hl7
        have HL := Lib.hid (show l7.length = 16 by rw [← hl7, addW_length]; exact HL.out)
        clear hl7
        go_upto_region 8 with fail
        go_cut [] (fun wx => Blk wx w.heap.size 86 ((mixW l7 b c 7).map u32v) ∧ Blk wx (w.heap.size + 1) 86 z16 ∧ Below w.heap.size w wx)
        case first =>
         have fx := hblk.word b (by have := HL.out; omega)
         have fy := hblk.word c (by have := HL.out; omega)
         have zx := hblk.frozen b
         have R := Lib.hid (fun q : Nat => And.intro ((hblk.drewN q).setWord b (rotl (wd l7 b ^^^ wd l7 c) 7)) (And.intro ((hz.drewN q).far (p := ⟨w.heap.size, b, none⟩) (by simp) (.int .u32 ((rotl (wd l7 b ^^^ wd l7 c) 7).toNat : Int))) ((below_drewN hbel q).setCell (p := ⟨w.heap.size, b, none⟩) (Nat.le_refl _) (.int .u32 ((rotl (wd l7 b ^^^ wd l7 c) 7).toNat : Int)))))
         have cx := fun w' : World => refLeft_any (wd l7 b ^^^ wd l7 c) 7 (by omega) (by omega) w'
         simp only [← u32_xor] at cx
         clear hblk hbel hz
         go_region_with ((go_at_call 95; refine (cx _).mono ?_; rintro e wa ⟨rfl, qa, rfl⟩))
         all_goals (go_wp2; go_meet; exact R.out _)
        case rest =>
         obtain ⟨hblk, hz, hbel⟩ := hcut
         obtain ⟨l8, hl8⟩ : ∃ l8, mixW l7 b c 7 = l8 := ⟨_, rfl⟩
         rw [hl8] at hblk
         have E8 := Lib.hid hl8
         have HL := Lib.hid (show l8.length = 16 by rw [← hl8, mixW_length]; exact HL.out)
         clear hl8
         have HZ : l8 = lz := by rw [← E8.out, ← E7.out, ← E6.out, ← E5.out, ← E4.out, ← E3.out, ← E2.out, ← E1.out]; exact HLZ.out
         subst HZ
         have HB := Lib.hid (And.intro hblk (And.intro hz hbel))
         obtain ⟨cz, hcz⟩ : ∃ cz, (l8.map u32v).toArray = cz := ⟨_, rfl⟩
         have HCZ := Lib.hid hcz
         clear hblk hz hbel hcz
         go_upto_region 9 with fail
         go_wp2_with (first | (refine wpList_load_blk rfl 86 (.tmp 5) rfl w.heap.size rfl 86 (l8.map u32v) HB.out.1 16 28 Tryz.underlying86 (cells16 l8 HL.out) ?_; rw [HCZ.out]) | (refine wpList_store_blk rfl 86 (.tmp 10) (.tmp 83) rfl (w.heap.size + 1) (l8.map u32v) rfl (by show Value.agg cz = _; rw [HCZ.out]) 86 z16 HB.out.2.1 (cells16 l8 HL.out) (by rw [List.length_map, HL.out]; rfl) (u32v_one _) ?_; intro w9 hb9 hg9))
         exact bodyPost_ret (results_blk rfl _ _ (w.heap.size + 1) 86 (l8.map u32v) 16 28 rfl hb9 Tryz.underlying86 (cells16 l8 HL.out)) rfl ⟨rfl, below_blk HB.out.2.2 hg9 (by omega)⟩
theorem refQ_at {l l' : List UInt32} {s s' : Array Value} (hl : l.length = 16) (a b c d : Nat) (X Y U V : Int) (hX : X = (a : Int)) (hY : Y = (b : Int)) (hU : U = (c : Int)) (hV : V = (d : Int)) (ha : a < 16) (hb : b < 16) (hc : c < 16) (hd : d < 16)
 (h : quarterW l a b c d = l') (hs : (l.map u32v).toArray = s) (hs' : (l'.map u32v).toArray = s') (w : World) :
 Calls Tryz.prog 77 #[.agg s, .int .i64 X, .int .i64 Y, .int .i64 U, .int .i64 V] w fun e w' => e = .returned (.agg s') ∧ Below w.heap.size w w' := by
 subst hX hY hU hV hs hs' h
 exact refQuarter_any l hl a b c d ha hb hc hd w
set_option maxRecDepth 100000 in
set_option maxHeartbeats 4000000 in
theorem refCore_any (l : List UInt32) (hl : l.length = 16) (w : World) :
 Calls Tryz.prog 61 #[.agg (l.map u32v).toArray] w fun e w' => e = .returned (.agg ((coreW 10 l).map u32v).toArray) ∧ Below w.heap.size w w' := by
 obtain ⟨cl, hcl⟩ : ∃ cl, (l.map u32v).toArray = cl := ⟨_, rfl⟩
 rw [hcl]
 have HB0 := Lib.hid (show Blk (w.alloc (.cells cl 86)) w.heap.size 86 (l.map u32v) by rw [← hcl]; exact Blk.new w _ _)
 obtain ⟨lz, hlz⟩ : ∃ lz, coreW 10 l = lz := ⟨_, rfl⟩
 rw [hlz]
 have HLZ := Lib.hid hlz
 have HL := Lib.hid hl
 clear hl hlz
 go_enter Tryz.func61, Tryz.ntmps61
 go_upto_region 1 with fail
 have hk1 := HB0.out.alloc (.cells z16.toArray 86)
 have hz1 : Blk ((w.alloc (.cells cl 86)).alloc (.cells z16.toArray 86)) (w.heap.size + 1) 86 z16 := Blk.new' _ (by simp) _ _
 have hbel1 : Below w.heap.size w ((w.alloc (.cells cl 86)).alloc (.cells z16.toArray 86)) := ((Below.refl _ _).alloc (Nat.le_refl _) _).alloc (by simp) _
 rw [z16_arr] at hk1 hz1 hbel1
 clear HB0 hcl
 generalize ((w.alloc (.cells cl 86)).alloc (.cells zw16_ 86)) = w1 at hk1 hz1 hbel1 ⊢
 go_wp2_with fail
 go_loopw [3] (fun i wr => ∃ j : Nat, j ≤ 10 ∧ i = .int .i64 j ∧ Blk wr w.heap.size 86 ((coreW j l).map u32v) ∧ Blk wr (w.heap.size + 1) 86 z16 ∧ Below w.heap.size w wr) (fun i _ => 10 - (intOf i).toNat)
 case atStart => exact ⟨0, by omega, rfl, hk1, hz1, hbel1⟩
 case round =>
  obtain ⟨j, hj, rfl, hblk, hz, hbel⟩ := hrel
  clear hk1 hz1 hbel1
  by_cases hlt : j < 10
  ·
   obtain ⟨l0, hl0⟩ : ∃ l0, coreW j l = l0 := ⟨_, rfl⟩
   rw [hl0] at hblk
   have HL0 := Lib.hid (show l0.length = 16 by rw [← hl0, coreW_length]; exact HL.out)
   have E0 := Lib.hid hl0
   clear hl0
   have d10 : decide ((j : Int) < 10) = true := by simp; omega
   obtain ⟨s0, hs0⟩ : ∃ s0, (l0.map u32v).toArray = s0 := ⟨_, rfl⟩
   have HS0 := Lib.hid hs0
   clear hs0
   have HB0 := Lib.hid (And.intro hblk (And.intro hz hbel))
   clear hblk hz hbel
   obtain ⟨l1, h1⟩ : ∃ l1, quarterW l0 0 4 8 12 = l1 := ⟨_, rfl⟩
   obtain ⟨s1, hs⟩ : ∃ s1, (l1.map u32v).toArray = s1 := ⟨_, rfl⟩
   have HL1 := Lib.hid (show l1.length = 16 by rw [← h1, quarterW_length]; exact HL0.out)
   have QC := Lib.hid (refQ_at (l := l0) HL0.out 0 4 8 12 0 4 8 12 rfl rfl rfl rfl (by omega) (by omega) (by omega) (by omega) h1 HS0.out hs)
   have E1 := Lib.hid h1
   have HS1 := Lib.hid hs
   clear h1 hs
   go_wp2_with (refine wpList_load_blk rfl 86 (.tmp 1) rfl w.heap.size rfl 86 (l0.map u32v) HB0.out.1 16 28 Tryz.underlying86 (cells16 l0 HL0.out) ?_; rw [HS0.out])
   clear d10
   refine (QC.out _).mono ?_
   rintro e w1 ⟨rfl, hq⟩
   have hb1 := HB0.out.1.below hq HB0.out.1.lt
   have hz1 := HB0.out.2.1.below hq HB0.out.2.1.lt
   have hw1 := HB0.out.2.2.trans (hq.mono HB0.out.2.2.size)
   clear hq QC
   go_upto_region 5 with (refine wpList_store_blk rfl 86 (.tmp 1) (.tmp 9) rfl w.heap.size (l1.map u32v) rfl (by rw [HS1.out]; rfl) 86 (l0.map u32v) hb1 (cells16 l1 HL1.out) (by rw [List.length_map, List.length_map, HL1.out, HL0.out]) (u32v_one _) ?_; intro x1 hbx hgx)
   try simp only [Act.put]
   have HB1 := Lib.hid (show Blk x1 w.heap.size 86 (l1.map u32v) ∧ Blk x1 (w.heap.size + 1) 86 z16 ∧ Below w.heap.size w x1 from ⟨hbx, hz1.grown hgx (by simp), below_blk hw1 hgx (Nat.le_refl _)⟩)
   clear hb1 hz1 hw1 hbx hgx HB0
   obtain ⟨l2, h2⟩ : ∃ l2, quarterW l1 1 5 9 13 = l2 := ⟨_, rfl⟩
   obtain ⟨s2, hs⟩ : ∃ s2, (l2.map u32v).toArray = s2 := ⟨_, rfl⟩
   have HL2 := Lib.hid (show l2.length = 16 by rw [← h2, quarterW_length]; exact HL1.out)
   have QC := Lib.hid (refQ_at (l := l1) HL1.out 1 5 9 13 1 5 9 13 rfl rfl rfl rfl (by omega) (by omega) (by omega) (by omega) h2 HS1.out hs)
   have E2 := Lib.hid h2
   have HS2 := Lib.hid hs
   clear h2 hs
   go_wp2_with (refine wpList_load_blk rfl 86 (.tmp 1) rfl w.heap.size rfl 86 (l1.map u32v) HB1.out.1 16 28 Tryz.underlying86 (cells16 l1 HL1.out) ?_; rw [HS1.out])
   refine (QC.out _).mono ?_
   rintro e w2 ⟨rfl, hq⟩
   have hb2 := HB1.out.1.below hq HB1.out.1.lt
   have hz2 := HB1.out.2.1.below hq HB1.out.2.1.lt
   have hw2 := HB1.out.2.2.trans (hq.mono HB1.out.2.2.size)
   clear hq QC
   go_upto_region 6 with (refine wpList_store_blk rfl 86 (.tmp 1) (.tmp 11) rfl w.heap.size (l2.map u32v) rfl (by rw [HS2.out]; rfl) 86 (l1.map u32v) hb2 (cells16 l2 HL2.out) (by rw [List.length_map, List.length_map, HL2.out, HL1.out]) (u32v_one _) ?_; intro x2 hbx hgx)
   try simp only [Act.put]
   have HB2 := Lib.hid (show Blk x2 w.heap.size 86 (l2.map u32v) ∧ Blk x2 (w.heap.size + 1) 86 z16 ∧ Below w.heap.size w x2 from ⟨hbx, hz2.grown hgx (by simp), below_blk hw2 hgx (Nat.le_refl _)⟩)
   clear hb2 hz2 hw2 hbx hgx HB1
   obtain ⟨l3, h3⟩ : ∃ l3, quarterW l2 2 6 10 14 = l3 := ⟨_, rfl⟩
   obtain ⟨s3, hs⟩ : ∃ s3, (l3.map u32v).toArray = s3 := ⟨_, rfl⟩
   have HL3 := Lib.hid (show l3.length = 16 by rw [← h3, quarterW_length]; exact HL2.out)
   have QC := Lib.hid (refQ_at (l := l2) HL2.out 2 6 10 14 2 6 10 14 rfl rfl rfl rfl (by omega) (by omega) (by omega) (by omega) h3 HS2.out hs)
   have E3 := Lib.hid h3
   have HS3 := Lib.hid hs
   clear h3 hs
   go_wp2_with (refine wpList_load_blk rfl 86 (.tmp 1) rfl w.heap.size rfl 86 (l2.map u32v) HB2.out.1 16 28 Tryz.underlying86 (cells16 l2 HL2.out) ?_; rw [HS2.out])
   refine (QC.out _).mono ?_
   rintro e w3 ⟨rfl, hq⟩
   have hb3 := HB2.out.1.below hq HB2.out.1.lt
   have hz3 := HB2.out.2.1.below hq HB2.out.2.1.lt
   have hw3 := HB2.out.2.2.trans (hq.mono HB2.out.2.2.size)
   clear hq QC
   go_upto_region 7 with (refine wpList_store_blk rfl 86 (.tmp 1) (.tmp 13) rfl w.heap.size (l3.map u32v) rfl (by rw [HS3.out]; rfl) 86 (l2.map u32v) hb3 (cells16 l3 HL3.out) (by rw [List.length_map, List.length_map, HL3.out, HL2.out]) (u32v_one _) ?_; intro x3 hbx hgx)
   try simp only [Act.put]
   have HB3 := Lib.hid (show Blk x3 w.heap.size 86 (l3.map u32v) ∧ Blk x3 (w.heap.size + 1) 86 z16 ∧ Below w.heap.size w x3 from ⟨hbx, hz3.grown hgx (by simp), below_blk hw3 hgx (Nat.le_refl _)⟩)
   clear hb3 hz3 hw3 hbx hgx HB2
   obtain ⟨l4, h4⟩ : ∃ l4, quarterW l3 3 7 11 15 = l4 := ⟨_, rfl⟩
   obtain ⟨s4, hs⟩ : ∃ s4, (l4.map u32v).toArray = s4 := ⟨_, rfl⟩
   have HL4 := Lib.hid (show l4.length = 16 by rw [← h4, quarterW_length]; exact HL3.out)
   have QC := Lib.hid (refQ_at (l := l3) HL3.out 3 7 11 15 3 7 11 15 rfl rfl rfl rfl (by omega) (by omega) (by omega) (by omega) h4 HS3.out hs)
   have E4 := Lib.hid h4
   have HS4 := Lib.hid hs
   clear h4 hs
   go_wp2_with (refine wpList_load_blk rfl 86 (.tmp 1) rfl w.heap.size rfl 86 (l3.map u32v) HB3.out.1 16 28 Tryz.underlying86 (cells16 l3 HL3.out) ?_; rw [HS3.out])
   refine (QC.out _).mono ?_
   rintro e w4 ⟨rfl, hq⟩
   have hb4 := HB3.out.1.below hq HB3.out.1.lt
   have hz4 := HB3.out.2.1.below hq HB3.out.2.1.lt
   have hw4 := HB3.out.2.2.trans (hq.mono HB3.out.2.2.size)
   clear hq QC
   go_upto_region 8 with (refine wpList_store_blk rfl 86 (.tmp 1) (.tmp 15) rfl w.heap.size (l4.map u32v) rfl (by rw [HS4.out]; rfl) 86 (l3.map u32v) hb4 (cells16 l4 HL4.out) (by rw [List.length_map, List.length_map, HL4.out, HL3.out]) (u32v_one _) ?_; intro x4 hbx hgx)
   try simp only [Act.put]
   have HB4 := Lib.hid (show Blk x4 w.heap.size 86 (l4.map u32v) ∧ Blk x4 (w.heap.size + 1) 86 z16 ∧ Below w.heap.size w x4 from ⟨hbx, hz4.grown hgx (by simp), below_blk hw4 hgx (Nat.le_refl _)⟩)
   clear hb4 hz4 hw4 hbx hgx HB3
   obtain ⟨l5, h5⟩ : ∃ l5, quarterW l4 0 5 10 15 = l5 := ⟨_, rfl⟩
   obtain ⟨s5, hs⟩ : ∃ s5, (l5.map u32v).toArray = s5 := ⟨_, rfl⟩
   have HL5 := Lib.hid (show l5.length = 16 by rw [← h5, quarterW_length]; exact HL4.out)
   have QC := Lib.hid (refQ_at (l := l4) HL4.out 0 5 10 15 0 5 10 15 rfl rfl rfl rfl (by omega) (by omega) (by omega) (by omega) h5 HS4.out hs)
   have E5 := Lib.hid h5
   have HS5 := Lib.hid hs
   clear h5 hs
   go_wp2_with (refine wpList_load_blk rfl 86 (.tmp 1) rfl w.heap.size rfl 86 (l4.map u32v) HB4.out.1 16 28 Tryz.underlying86 (cells16 l4 HL4.out) ?_; rw [HS4.out])
   refine (QC.out _).mono ?_
   rintro e w5 ⟨rfl, hq⟩
   have hb5 := HB4.out.1.below hq HB4.out.1.lt
   have hz5 := HB4.out.2.1.below hq HB4.out.2.1.lt
   have hw5 := HB4.out.2.2.trans (hq.mono HB4.out.2.2.size)
   clear hq QC
   go_upto_region 9 with (refine wpList_store_blk rfl 86 (.tmp 1) (.tmp 17) rfl w.heap.size (l5.map u32v) rfl (by rw [HS5.out]; rfl) 86 (l4.map u32v) hb5 (cells16 l5 HL5.out) (by rw [List.length_map, List.length_map, HL5.out, HL4.out]) (u32v_one _) ?_; intro x5 hbx hgx)
   try simp only [Act.put]
   have HB5 := Lib.hid (show Blk x5 w.heap.size 86 (l5.map u32v) ∧ Blk x5 (w.heap.size + 1) 86 z16 ∧ Below w.heap.size w x5 from ⟨hbx, hz5.grown hgx (by simp), below_blk hw5 hgx (Nat.le_refl _)⟩)
   clear hb5 hz5 hw5 hbx hgx HB4
   obtain ⟨l6, h6⟩ : ∃ l6, quarterW l5 1 6 11 12 = l6 := ⟨_, rfl⟩
   obtain ⟨s6, hs⟩ : ∃ s6, (l6.map u32v).toArray = s6 := ⟨_, rfl⟩
   have HL6 := Lib.hid (show l6.length = 16 by rw [← h6, quarterW_length]; exact HL5.out)
   have QC := Lib.hid (refQ_at (l := l5) HL5.out 1 6 11 12 1 6 11 12 rfl rfl rfl rfl (by omega) (by omega) (by omega) (by omega) h6 HS5.out hs)
   have E6 := Lib.hid h6
   have HS6 := Lib.hid hs
   clear h6 hs
   go_wp2_with (refine wpList_load_blk rfl 86 (.tmp 1) rfl w.heap.size rfl 86 (l5.map u32v) HB5.out.1 16 28 Tryz.underlying86 (cells16 l5 HL5.out) ?_; rw [HS5.out])
   refine (QC.out _).mono ?_
   rintro e w6 ⟨rfl, hq⟩
   have hb6 := HB5.out.1.below hq HB5.out.1.lt
   have hz6 := HB5.out.2.1.below hq HB5.out.2.1.lt
   have hw6 := HB5.out.2.2.trans (hq.mono HB5.out.2.2.size)
   clear hq QC
   go_upto_region 10 with (refine wpList_store_blk rfl 86 (.tmp 1) (.tmp 19) rfl w.heap.size (l6.map u32v) rfl (by rw [HS6.out]; rfl) 86 (l5.map u32v) hb6 (cells16 l6 HL6.out) (by rw [List.length_map, List.length_map, HL6.out, HL5.out]) (u32v_one _) ?_; intro x6 hbx hgx)
   try simp only [Act.put]
   have HB6 := Lib.hid (show Blk x6 w.heap.size 86 (l6.map u32v) ∧ Blk x6 (w.heap.size + 1) 86 z16 ∧ Below w.heap.size w x6 from ⟨hbx, hz6.grown hgx (by simp), below_blk hw6 hgx (Nat.le_refl _)⟩)
   clear hb6 hz6 hw6 hbx hgx HB5
   obtain ⟨l7, h7⟩ : ∃ l7, quarterW l6 2 7 8 13 = l7 := ⟨_, rfl⟩
   obtain ⟨s7, hs⟩ : ∃ s7, (l7.map u32v).toArray = s7 := ⟨_, rfl⟩
   have HL7 := Lib.hid (show l7.length = 16 by rw [← h7, quarterW_length]; exact HL6.out)
   have QC := Lib.hid (refQ_at (l := l6) HL6.out 2 7 8 13 2 7 8 13 rfl rfl rfl rfl (by omega) (by omega) (by omega) (by omega) h7 HS6.out hs)
   have E7 := Lib.hid h7
   have HS7 := Lib.hid hs
   clear h7 hs
   go_wp2_with (refine wpList_load_blk rfl 86 (.tmp 1) rfl w.heap.size rfl 86 (l6.map u32v) HB6.out.1 16 28 Tryz.underlying86 (cells16 l6 HL6.out) ?_; rw [HS6.out])
   refine (QC.out _).mono ?_
   rintro e w7 ⟨rfl, hq⟩
   have hb7 := HB6.out.1.below hq HB6.out.1.lt
   have hz7 := HB6.out.2.1.below hq HB6.out.2.1.lt
   have hw7 := HB6.out.2.2.trans (hq.mono HB6.out.2.2.size)
   clear hq QC
   go_upto_region 11 with (refine wpList_store_blk rfl 86 (.tmp 1) (.tmp 21) rfl w.heap.size (l7.map u32v) rfl (by rw [HS7.out]; rfl) 86 (l6.map u32v) hb7 (cells16 l7 HL7.out) (by rw [List.length_map, List.length_map, HL7.out, HL6.out]) (u32v_one _) ?_; intro x7 hbx hgx)
   try simp only [Act.put]
   have HB7 := Lib.hid (show Blk x7 w.heap.size 86 (l7.map u32v) ∧ Blk x7 (w.heap.size + 1) 86 z16 ∧ Below w.heap.size w x7 from ⟨hbx, hz7.grown hgx (by simp), below_blk hw7 hgx (Nat.le_refl _)⟩)
   clear hb7 hz7 hw7 hbx hgx HB6
   obtain ⟨l8, h8⟩ : ∃ l8, quarterW l7 3 4 9 14 = l8 := ⟨_, rfl⟩
   obtain ⟨s8, hs⟩ : ∃ s8, (l8.map u32v).toArray = s8 := ⟨_, rfl⟩
   have HL8 := Lib.hid (show l8.length = 16 by rw [← h8, quarterW_length]; exact HL7.out)
   have QC := Lib.hid (refQ_at (l := l7) HL7.out 3 4 9 14 3 4 9 14 rfl rfl rfl rfl (by omega) (by omega) (by omega) (by omega) h8 HS7.out hs)
   have E8 := Lib.hid h8
   have HS8 := Lib.hid hs
   clear h8 hs
   go_wp2_with (refine wpList_load_blk rfl 86 (.tmp 1) rfl w.heap.size rfl 86 (l7.map u32v) HB7.out.1 16 28 Tryz.underlying86 (cells16 l7 HL7.out) ?_; rw [HS7.out])
   refine (QC.out _).mono ?_
   rintro e w8 ⟨rfl, hq⟩
   have hb8 := HB7.out.1.below hq HB7.out.1.lt
   have hz8 := HB7.out.2.1.below hq HB7.out.2.1.lt
   have hw8 := HB7.out.2.2.trans (hq.mono HB7.out.2.2.size)
   clear hq QC
   go_upto_region 3 with (refine wpList_store_blk rfl 86 (.tmp 1) (.tmp 23) rfl w.heap.size (l8.map u32v) rfl (by rw [HS8.out]; rfl) 86 (l7.map u32v) hb8 (cells16 l8 HL8.out) (by rw [List.length_map, List.length_map, HL8.out, HL7.out]) (u32v_one _) ?_; intro x8 hbx hgx)
   try simp only [Act.put]
   have HB8 := Lib.hid (show Blk x8 w.heap.size 86 (l8.map u32v) ∧ Blk x8 (w.heap.size + 1) 86 z16 ∧ Below w.heap.size w x8 from ⟨hbx, hz8.grown hgx (by simp), below_blk hw8 hgx (Nat.le_refl _)⟩)
   clear hb8 hz8 hw8 hbx hgx HB7
   go_wp2_with fail
   go_roundw
   case rel =>
    refine ⟨j + 1, by omega, by go_num, ?_, HB8.out.2.1, HB8.out.2.2⟩
    have : coreW (j + 1) l = l8 := by rw [← E8.out, ← E7.out, ← E6.out, ← E5.out, ← E4.out, ← E3.out, ← E2.out, ← E1.out, ← E0.out]; rfl
    rw [this]
    exact HB8.out.1
   case measure => simp [intOf]; omega
  ·
   obtain rfl : j = 10 := by omega
   rw [HLZ.out] at hblk
   have HLz := Lib.hid (show lz.length = 16 by rw [← HLZ.out, coreW_length]; exact HL.out)
   have HB := Lib.hid (And.intro hblk (And.intro hz hbel))
   obtain ⟨cz, hcz⟩ : ∃ cz, (lz.map u32v).toArray = cz := ⟨_, rfl⟩
   have HCZ := Lib.hid hcz
   clear hblk hz hbel hcz
   rw [show ((10 : Nat) : Int) = 10 from rfl]
   go_wp2_with (first | (refine wpList_load_blk rfl 86 (.tmp 1) rfl w.heap.size rfl 86 (lz.map u32v) HB.out.1 16 28 Tryz.underlying86 (cells16 lz HLz.out) ?_; rw [HCZ.out]) | (refine wpList_store_blk rfl 86 (.tmp 2) (.tmp 24) rfl (w.heap.size + 1) (lz.map u32v) rfl (by show Value.agg cz = _; rw [HCZ.out]) 86 z16 HB.out.2.1 (cells16 lz HLz.out) (by rw [List.length_map, HLz.out]; rfl) (u32v_one _) ?_; intro w9 hb9 hg9))
   exact bodyPost_ret (results_blk rfl _ _ (w.heap.size + 1) 86 (lz.map u32v) 16 28 rfl hb9 Tryz.underlying86 (cells16 lz HLz.out)) rfl ⟨rfl, below_blk HB.out.2.2 hg9 (by omega)⟩
set_option maxRecDepth 100000 in
theorem little_any (n : Nat) (_hn : n < 18446744073709551616) (k : Nat) (h1 : 1 ≤ k) (h8 : k ≤ 8) (w : World) :
 Calls Tryz.prog 55 #[.int .u64 n, .int .i64 k] w fun e w' => e = .returned (.slice (some ⟨w.heap.size, 0, none⟩) k k) ∧ w'.ownsRow w.heap.size 5 1 (.slice (some ⟨w.heap.size, 0, none⟩) k k) k ((littleL n k).map u8v) ∧ Below w.heap.size w w' := by
 obtain ⟨i0, hi, hz0, hz1, hz2⟩ := info_parts Tryz.info5
 go_enter Tryz.func55, Tryz.ntmps55
 go_wp2_with (refine wpList_make_full _ rfl (.tmp 13) (.tmp 13) 29 rfl w.heap.size 5 i0 (.int .u8 0) 1 Tryz.underlying29 hi hz0 hz1 .i64 .i64 k k k rfl rfl rfl rfl (by rw [hz2]; omega) (by unfold maxLen; omega) (Nat.le_refl _) ?_; intro w1 hown1 hg1)
 go_loopw [16, 6] (fun i _ wr => ∃ j : Nat, j ≤ k ∧ i = .int .i64 j ∧ wr.ownsRow w.heap.size 5 1 (.slice (some ⟨w.heap.size, 0, none⟩) k k) k ((littleRow n k j).map u8v) ∧ Below w.heap.size w wr) (fun i _ _ => k - (intOf i).toNat)
 case atStart =>
  refine ⟨0, by omega, rfl, ?_, (Below.refl _ _).grown hg1 (Nat.le_refl _) (by simp)⟩
  rw [littleRow_zero, List.map_replicate]
  rw [show (Value.int IntKind.u8 0).cells = #[.int .u8 0] from rfl, toList_madeCells_one, Nat.mul_one] at hown1
  exact hown1
 case round =>
  obtain ⟨j, hj, rfl, hown, hb⟩ := hrel
  by_cases hlt : j < k
  ·
   have hfz := hown.frozenAt j
   have hcl : ∃ u, wr.cell? ⟨w.heap.size, j, none⟩ = some u := by
    rw [hown.cellAt j (by omega)]
    exact ⟨_, List.getElem?_eq_getElem (by rw [hown.1]; omega)⟩
   obtain ⟨u, hcl⟩ := hcl
   obtain ⟨hs1, hs2⟩ := hown.stored j (u8v (byteOf n j))
   have HS := Lib.hid hs1
   clear hs1
   go_wp2
   go_roundw
   case rel =>
    refine ⟨j + 1, by omega, by go_num, ?_, ?_⟩
    ·
     have h := HS.out
     rw [← List.map_set, littleRow_set n k j hlt] at h
     simp only [u8v, byteOf_cast] at h
     exact h
    · exact hb.setCell (Nat.le_refl _) _
   case measure => simp [intOf]; omega
  ·
   obtain rfl : j = k := by omega
   rw [littleRow_end] at hown
   go_wp2
   go_ret
   exact ⟨rfl, hown, hb⟩
/-- sixty-four bytes, all 0 -/
def z64 : List Value := List.replicate 64 (.int .u8 0)
/-- the bytes of the first j words, then zeros -/
def bytesW (ws : List UInt32) : List UInt8 := ws.flatMap fun x => littleL x.toNat 4
theorem bytesW_length : ∀ ws : List UInt32, (bytesW ws).length = 4 * ws.length
 | [] => rfl
 | x :: ws => by
  have := bytesW_length ws
  simp only [bytesW, List.flatMap_cons, List.length_append, littleL_length, List.length_cons] at this ⊢
  omega
def rowB (ws : List UInt32) (j : Nat) : List UInt8 := bytesW (ws.take j) ++ List.replicate (64 - 4 * j) 0
theorem rowB_length (ws : List UInt32) (h : ws.length = 16) (j : Nat) (hj : j ≤ 16) : (rowB ws j).length = 64 := by
 simp only [rowB, List.length_append, bytesW_length, List.length_take, List.length_replicate]
 omega
theorem rowB_zero (ws : List UInt32) : (rowB ws 0).map u8v = z64 := by
 simp [rowB, bytesW, z64, u8v]
theorem rowB_end (ws : List UInt32) (h : ws.length = 16) : rowB ws 16 = bytesW ws := by
 simp [rowB, List.take_of_length_le (show ws.length ≤ 16 by omega)]
theorem rowB_step (ws : List UInt32) (h : ws.length = 16) (j : Nat) (hj : j < 16) (cs : List Value) (hcs : cs = (littleL (wd ws j).toNat 4).map u8v) :
 ((rowB ws j).map u8v).take (4 * j) ++ cs ++ ((rowB ws j).map u8v).drop (4 * j + cs.length) = (rowB ws (j + 1)).map u8v := by
 have hl : (bytesW (ws.take j)).length = 4 * j := by rw [bytesW_length, List.length_take]; omega
 have h4 : cs.length = 4 := by rw [hcs, List.length_map, littleL_length]
 have e1 : ((rowB ws j).map u8v).take (4 * j) = (bytesW (ws.take j)).map u8v := by
  rw [← List.map_take, rowB, List.take_append_of_le_length (by omega), List.take_of_length_le (by omega)]
 have e2 : ((rowB ws j).map u8v).drop (4 * j + cs.length) = (List.replicate (64 - 4 * (j + 1)) 0).map u8v := by
  rw [h4, ← List.map_drop, rowB, List.drop_append, List.drop_of_length_le (by omega), hl, List.nil_append, List.drop_replicate]
  congr 2
  omega
 rw [e1, e2, hcs]
 have e3 : ws.take (j + 1) = ws.take j ++ [wd ws j] := by
  rw [List.take_succ_eq_append_getElem (by omega)]
  simp [wd, List.getD, h, hj]
 rw [rowB, e3]
 simp [bytesW]
theorem cells64 (l : List UInt8) (h : l.length = 64) : (Tryz.prog.info? 89).map (·.size) = some (l.map u8v).length := by
 rw [List.length_map, h]; kernel_rfl
theorem cells12 (l : List UInt8) (h : l.length = 12) : (Tryz.prog.info? 57).map (·.size) = some (l.map u8v).length := by
 rw [List.length_map, h]; kernel_rfl
theorem word_of (l m : List UInt32) (j : Nat) (hl : l.length = 16) (hm : m.length = 16) (hj : j < 16) : wd (l.zipWith (· + ·) m) j = wd l j + wd m j := by
 simp [wd, List.getD, hl, hm, hj]
set_option maxRecDepth 100000 in
set_option maxHeartbeats 4000000 in
theorem block_any (k n : List UInt8) (hk : k.length = 32) (hn : n.length = 12) (c : UInt32) (w : World) :
 Calls Tryz.prog 71 #[.agg (k.map u8v).toArray, .int .u32 (c.toNat : Int), .agg (n.map u8v).toArray] w fun e w' => e = .returned (.agg ((blockL k c n).map u8v).toArray) ∧ Below w.heap.size w w' := by
 obtain ⟨i0, hi, hz0, hz1, hz2⟩ := info_parts Tryz.info5
 have SC := fun w' : World => state_any k n hk hn c w'
 obtain ⟨ck, hck⟩ : ∃ ck, (k.map u8v).toArray = ck := ⟨_, rfl⟩
 obtain ⟨cn, hcn⟩ : ∃ cn, (n.map u8v).toArray = cn := ⟨_, rfl⟩
 rw [hck, hcn] at SC
 obtain ⟨ls, hls⟩ : ∃ ls, stateW k c n = ls := ⟨_, rfl⟩
 have HLS := Lib.hid (show ls.length = 16 by rw [← hls]; exact stateW_length k c n)
 rw [hls] at SC
 obtain ⟨sa, has⟩ : ∃ sa, (ls.map u32v).toArray = sa := ⟨_, rfl⟩
 rw [has] at SC
 have CC := fun w' : World => core_any ls HLS.out w'
 obtain ⟨lm, hlm⟩ : ∃ lm, coreW 10 ls = lm := ⟨_, rfl⟩
 have HLM := Lib.hid (show lm.length = 16 by rw [← hlm, coreW_length]; exact HLS.out)
 rw [has, hlm] at CC
 obtain ⟨sm, ham⟩ : ∃ sm, (lm.map u32v).toArray = sm := ⟨_, rfl⟩
 rw [ham] at CC
 have EB : blockL k c n = bytesW (lm.zipWith (· + ·) ls) := by rw [← hlm, ← hls]; rfl
 obtain ⟨ws, hws⟩ : ∃ ws, lm.zipWith (· + ·) ls = ws := ⟨_, rfl⟩
 have HWS := Lib.hid (show ws.length = 16 by rw [← hws, List.length_zipWith, HLS.out, HLM.out]; rfl)
 have HWD := Lib.hid (fun (j : Nat) (hj : j < 16) => show wd ls j + wd lm j = wd ws j by rw [← hws, word_of lm ls j HLM.out HLS.out hj, UInt32.add_comm])
 rw [hws] at EB
 rw [hck, hcn]
 have HK0 := Lib.hid (show Blk (w.alloc (.cells ck 23)) w.heap.size 23 (k.map u8v) by rw [← hck]; exact Blk.new w _ _)
 have HN0 := Lib.hid (show Blk ((w.alloc (.cells ck 23)).alloc (.cells cn 57)) (w.heap.size + 1) 57 (n.map u8v) by rw [← hcn]; exact Blk.new' _ (by simp) _ _)
 have HCK := Lib.hid hck
 have HCN := Lib.hid hcn
 have HAS := Lib.hid has
 have HAM := Lib.hid ham
 have HEB := Lib.hid EB
 have HSC := Lib.hid SC
 have HCC := Lib.hid CC
 have HK := Lib.hid hk
 have HN := Lib.hid hn
 clear hk hn hck hcn has ham EB SC CC hls hlm hws
 go_enter Tryz.func71, Tryz.ntmps71
 go_upto_region 1 with fail
 have hk1 := (HK0.out.alloc (.cells cn 57)).alloc (.cells z64.toArray 89)
 have hn1 := HN0.out.alloc (.cells z64.toArray 89)
 have hz1' : Blk (((w.alloc (.cells ck 23)).alloc (.cells cn 57)).alloc (.cells z64.toArray 89)) (w.heap.size + 2) 89 z64 := Blk.new' _ (by simp) _ _
 have hbel1 : Below w.heap.size w (((w.alloc (.cells ck 23)).alloc (.cells cn 57)).alloc (.cells z64.toArray 89)) := (((Below.refl _ _).alloc (Nat.le_refl _) _).alloc (by simp) _).alloc (by simp; omega) _
 have hs1 : w.heap.size + 3 ≤ (((w.alloc (.cells ck 23)).alloc (.cells cn 57)).alloc (.cells z64.toArray 89)).heap.size := by simp
 clear HK0 HN0
 have e64 : z64.toArray = zb64 := rfl
 rw [e64] at hk1 hn1 hz1' hbel1 hs1
 generalize (((w.alloc (.cells ck 23)).alloc (.cells cn 57)).alloc (.cells zb64 89)) = W1 at hk1 hn1 hz1' hbel1 hs1 ⊢
 clear e64
 rw [show w.heap.size + 1 + 1 = w.heap.size + 2 from rfl]
 have HS1 := Lib.hid hs1
 clear hs1
 go_wp2_with (first | (refine wpList_load_blk rfl 23 (.tmp 3) rfl w.heap.size rfl 23 (k.map u8v) hk1 32 5 Tryz.underlying23 (cells32 k HK.out) ?_; rw [HCK.out]) | (refine wpList_load_blk rfl 57 (.tmp 5) rfl (w.heap.size + 1) rfl 57 (n.map u8v) hn1 12 5 Tryz.underlying57 (cells12 n HN.out) ?_; rw [HCN.out]))
 refine (HSC.out _).mono ?_
 rintro e w2 ⟨rfl, hb2⟩
 have hz2' := hz1'.below hb2 hz1'.lt
 have bel2 := hbel1.trans (hb2.mono hbel1.size)
 have hs2 : w.heap.size + 3 ≤ w2.heap.size := Nat.le_trans HS1.out hb2.size
 have HB2 := Lib.hid (And.intro hz2' (And.intro bel2 hs2))
 clear hz1' hbel1 hb2 hz2' bel2 hs2 hk1 hn1 HS1
 go_upto_region 2 with (refine wpList_store_blk rfl 86 (.tmp 7) (.tmp 15) rfl w2.heap.size (ls.map u32v) rfl (by rw [HAS.out]; rfl) 86 z16 (Blk.new w2 86 z16) (cells16 ls HLS.out) (by rw [List.length_map, HLS.out]; rfl) (u32v_one _) ?_; intro w3 hb3 hg3)
 simp only [Act.put]
 have hz3 := (HB2.out.1.alloc (.cells z16.toArray 86)).grown hg3 (by have := HB2.out.2.2; simp; omega)
 have bel3 := Below.grown (HB2.out.2.1.alloc HB2.out.2.1.size (.cells z16.toArray 86)) hg3 (by have := HB2.out.2.1.size; simp; omega) (by have := HB2.out.2.1.size; intro k hk; injection hk with hk; omega)
 have hs3 : w2.heap.size + 1 ≤ w3.heap.size := by have := hg3.size; simpa using this
 have HB3 := Lib.hid (And.intro hb3 (And.intro hz3 (And.intro bel3 hs3)))
 clear hb3 hg3 hz3 bel3 hs3
 go_wp2_with (refine wpList_load_blk rfl 86 (.tmp 7) rfl w2.heap.size rfl 86 (ls.map u32v) HB3.out.1 16 28 Tryz.underlying86 (cells16 ls HLS.out) ?_; rw [HAS.out])
 refine (HCC.out _).mono ?_
 rintro e w4 ⟨rfl, hb4⟩
 have HB4 := Lib.hid (show Blk w4 w2.heap.size 86 (ls.map u32v) ∧ Blk w4 (w.heap.size + 2) 89 z64 ∧ Below w.heap.size w w4 ∧ w2.heap.size + 1 ≤ w4.heap.size from ⟨HB3.out.1.below hb4 HB3.out.1.lt, HB3.out.2.1.below hb4 HB3.out.2.1.lt, HB3.out.2.2.1.trans (hb4.mono HB3.out.2.2.1.size), Nat.le_trans HB3.out.2.2.2 hb4.size⟩)
 clear HB3 hb4
 go_upto_region 3 with (refine wpList_store_blk rfl 86 (.tmp 8) (.tmp 17) rfl w4.heap.size (lm.map u32v) rfl (by rw [HAM.out]; rfl) 86 z16 (Blk.new w4 86 z16) (cells16 lm HLM.out) (by rw [List.length_map, HLM.out]; rfl) (u32v_one _) ?_; intro w5 hb5 hg5)
 simp only [Act.put]
 have HB5 := Lib.hid (show Blk w5 w4.heap.size 86 (lm.map u32v) ∧ Blk w5 w2.heap.size 86 (ls.map u32v) ∧ Blk w5 (w.heap.size + 2) 89 z64 ∧ Below w.heap.size w w5 ∧ w4.heap.size + 1 ≤ w5.heap.size by
  have h1 := HB4.out.2.2.2
  have h2 := HB2.out.2.2
  have h3 := HB4.out.2.2.1.size
  exact ⟨hb5, (HB4.out.1.alloc _).grown hg5 (by simp; omega), (HB4.out.2.1.alloc _).grown hg5 (by simp; omega), Below.grown (HB4.out.2.2.1.alloc h3 (.cells z16.toArray 86)) hg5 (by simp; omega) (by intro k hk; injection hk with hk; omega), by have := hg5.size; simpa using this⟩)
 have HO := Lib.hid (show w.heap.size + 2 < w2.heap.size ∧ w2.heap.size < w4.heap.size ∧ w4.heap.size < w5.heap.size by
  have h1 := HB4.out.2.2.2
  have h2 := HB2.out.2.2
  have h3 := HB5.out.2.2.2.2
  omega)
 clear hb5 hg5 HB4 HB2
 generalize w2.heap.size = P at HB5 HO ⊢
 generalize w4.heap.size = Q at HB5 HO ⊢
 go_upto_region 5 with fail
 have h64 : z64.toArray = zb64 := rfl
 have h1 := HB5.out.1.alloc (.cells z64.toArray 89)
 have h2 := HB5.out.2.1.alloc (.cells z64.toArray 89)
 have h3 := HB5.out.2.2.1.alloc (.cells z64.toArray 89)
 have h4 := HB5.out.2.2.2.1.alloc HB5.out.2.2.2.1.size (.cells z64.toArray 89)
 have h5 : Blk (w5.alloc (.cells z64.toArray 89)) w5.heap.size 89 z64 := Blk.new w5 _ _
 rw [h64] at h1 h2 h3 h4 h5
 generalize w5.alloc (.cells zb64 89) = w6 at h1 h2 h3 h4 h5 ⊢
 clear h64 HB5
 generalize w5.heap.size = R at h5 HO ⊢
 have HB6 := Lib.hid (And.intro h1 (And.intro h2 (And.intro h3 (And.intro h5 h4))))
 clear h1 h2 h3 h4 h5
 go_loopw [18, 10, 11] (fun i _ _ wr => ∃ j : Nat, j ≤ 16 ∧ i = .int .i64 j ∧ Blk wr Q 86 (lm.map u32v) ∧ Blk wr P 86 (ls.map u32v) ∧ Blk wr (w.heap.size + 2) 89 z64 ∧ Blk wr R 89 ((rowB ws j).map u8v) ∧ Below w.heap.size w wr) (fun i _ _ _ => 16 - (intOf i).toNat)
 case atStart => exact ⟨0, by omega, rfl, HB6.out.1, HB6.out.2.1, HB6.out.2.2.1, by rw [rowB_zero]; exact HB6.out.2.2.2.1, HB6.out.2.2.2.2⟩
 case round =>
  clear HB6
  obtain ⟨j, hj, rfl, hq, hp, hz, hr, hbel⟩ := hrel
  by_cases hlt : j < 16
  ·
   have d16 : decide ((j : Int) < 16) = true := by simp; omega
   have fx := hp.word j (by have := HLS.out; omega)
   have fy := hq.word j (by have := HLM.out; omega)
   have HB7 := Lib.hid (And.intro hq (And.intro hp (And.intro hz (And.intro hr hbel))))
   have HE := Lib.hid (HWD.out j hlt)
   have HL := Lib.hid (fun w' : World => little_any (wd ws j).toNat (by have := (wd ws j).toNat_lt; omega) 4 (by omega) (by omega) w')
   clear hq hp hz hr hbel
   go_upto_region 7 with fail
   go_region
   simp only [u32_sum, HE.out]
   clear fx fy d16
   have hwr : IntKind.i64.wrap ((j : Int) * 4) = (j : Int) * 4 := IntWalk.i64_in _ (by omega)
   have hwc : IntKind.u64.wrap ((wd ws j).toNat : Int) = ((wd ws j).toNat : Int) := by
    have := (wd ws j).toNat_lt
    rw [IntKind.wrap_u64]
    omega
   have hsl : ∀ w' : World, (Instr.sliceAt 89 (.pointer (some ⟨R, 0, none⟩)) (some (.int .i64 ((j : Int) * 4))) none none).run Tryz.prog w' = .ok (.slice (some ⟨R, j * 4, none⟩) (64 - j * 4) (64 - j * 4)) w' :=
    fun w' => run_slice_array_from (P := Tryz.prog) w' 89 5 64 Tryz.underlying89 i0 hi hz1 R .i64 (j * 4) ((j : Int) * 4) (by omega) (by omega)
   go_wp2_with fail
   refine wp_region_held_drew (S := fun _ => True) (by kernel_rfl) (trivial) (fun hHeld => ?_)
   refine tf (v := ?_) 0 rfl (Or.inl ⟨by rfl, ?_⟩) ?_
   rotate_left
   · (intro w hSw; (try dsimp only at hSw); go_simp; try with_reducible rfl)
   (try simp only [Act.put, sA, s0, s1])
   refine tf (v := ?_) 1 rfl (Or.inl ⟨by rfl, ?_⟩) ?_
   rotate_left
   · (intro w hSw; (try dsimp only at hSw); go_simp; try with_reducible rfl)
   (try simp only [Act.put, sA, s0, s1])
   refine tf (v := ?_) 2 rfl (Or.inl ⟨by rfl, ?_⟩) ?_
   rotate_left
   · (intro w hSw; (try dsimp only at hSw); go_simp; try with_reducible rfl)
   (try simp only [Act.put, sA, s0, s1])
   refine tf (v := ?_) 3 rfl (Or.inl ⟨by rfl, ?_⟩) ?_
   rotate_left
   · (intro w hSw; (try dsimp only at hSw); go_simp; try with_reducible rfl)
   (try simp only [Act.put, sA, s0, s1])
   refine tf (v := ?_) 4 rfl (Or.inl ⟨by rfl, ?_⟩) ?_
   rotate_left
   · (intro w hSw; (try dsimp only at hSw); go_simp; try with_reducible rfl)
   (try simp only [Act.put, sA, s0, s1])
   refine so 5 rfl fun K hK => ?_
   go_simp
   refine (HL.out _).mono ?_
   rintro e wq ⟨rfl, hown, hbq⟩
   have hlt8 := hbq.size
   have HB8 := Lib.hid (show Blk wq Q 86 (lm.map u32v) ∧ Blk wq P 86 (ls.map u32v) ∧ Blk wq (w.heap.size + 2) 89 z64 ∧ Blk wq R 89 ((rowB ws j).map u8v) ∧ Below w.heap.size w wq from ⟨HB7.out.1.drew.drew.below hbq HB7.out.1.lt, HB7.out.2.1.drew.drew.below hbq HB7.out.2.1.lt, HB7.out.2.2.1.drew.drew.below hbq HB7.out.2.2.1.lt, HB7.out.2.2.2.1.drew.drew.below hbq HB7.out.2.2.2.1.lt, HB7.out.2.2.2.2.drew.drew.trans (hbq.mono HB7.out.2.2.2.2.size)⟩)
   have HW := Lib.hid hown
   clear hown hbq
   go_wp2_with fail
   refine hK.out _ _ (trivial) (fun hHeld => ?_)
   clear hK K
   (try simp only [Act.put, sA, s0, s1])
   refine so 6 rfl fun K hK => ?_
   refine step_copy_bytes _ rfl (.tmp 30) (.tmp 33) 29 29 (by rfl) 5 Tryz.underlying29 (by kernel_rfl) R (j * 4) (64 - j * 4) (64 - j * 4) ⟨wr.heap.size, 0, none⟩ 4 4 (by rfl) (by rfl) ((rowB ws j).map u8v) 89 HB8.out.2.2.2.1 ((littleL (wd ws j).toNat 4).map u8v) (by rw [List.length_map, littleL_length]; exact (Nat.min_eq_left (show 4 ≤ 64 - j * 4 by omega)).symm) ?_ (by simp only [List.length_map, littleL_length, rowB_length ws HWS.out j hj]; omega) (u8v_one _) ?_
   ·
    intro i v h
    have h' : i < 4 := by
     have := (List.getElem?_eq_some_iff.1 h).1
     simpa [littleL_length] using this
    have := HW.out.cellAt i (by omega)
    rw [Go.WideShapes.add_plain, Nat.zero_add]
    exact this.trans h
   intro w8 hb8 hg8
   refine hK.out _ _ (trivial) (fun hHeld => ?_)
   clear hK K
   (try simp only [Act.put, sA, s0, s1])
   refine wpAnyH_done (by kernel_rfl) ?_ _
   rw [Nat.mul_comm j 4, rowB_step ws HWS.out j hlt _ rfl] at hb8
   have HB9 := Lib.hid (show Blk w8 Q 86 (lm.map u32v) ∧ Blk w8 P 86 (ls.map u32v) ∧ Blk w8 (w.heap.size + 2) 89 z64 ∧ Blk w8 R 89 ((rowB ws (j + 1)).map u8v) ∧ Below w.heap.size w w8 by
    have := HO.out
    exact ⟨HB8.out.1.grown hg8 (by simp; omega), HB8.out.2.1.grown hg8 (by simp; omega), HB8.out.2.2.1.grown hg8 (by simp; omega), hb8, below_blk HB8.out.2.2.2.2 hg8 (by omega)⟩)
   clear hb8 hg8 HB8 HB7 HW hwr hwc hsl hlt8
   go_wp2
   go_roundw
   case rel => exact ⟨j + 1, by omega, by go_num, HB9.out.1, HB9.out.2.1, HB9.out.2.2.1, HB9.out.2.2.2.1, HB9.out.2.2.2.2⟩
   case measure => simp [intOf]; omega
  ·
   obtain rfl : j = 16 := by omega
   rw [rowB_end ws HWS.out] at hr
   have HB := Lib.hid (And.intro hr (And.intro hz hbel))
   clear hr hz hbel hq hp
   have HLz := Lib.hid (show (bytesW ws).length = 64 by rw [bytesW_length, HWS.out])
   obtain ⟨lz, hlz⟩ : ∃ lz, bytesW ws = lz := ⟨_, rfl⟩
   rw [hlz] at HB HLz
   have HZ := Lib.hid (HEB.out.trans hlz)
   obtain ⟨cz, hcz⟩ : ∃ cz, (lz.map u8v).toArray = cz := ⟨_, rfl⟩
   have HCZ := Lib.hid hcz
   clear hcz hlz
   go_wp2_with (first | (refine wpList_load_blk rfl 89 (.tmp 9) rfl R rfl 89 (lz.map u8v) HB.out.1 64 5 Tryz.underlying89 (cells64 lz HLz.out) ?_; rw [HCZ.out]) | (refine wpList_store_blk rfl 89 (.tmp 6) (.tmp 36) rfl (w.heap.size + 2) (lz.map u8v) rfl (by show Value.agg cz = _; rw [HCZ.out]) 89 z64 HB.out.2.1 (cells64 lz HLz.out) (by rw [List.length_map, HLz.out]; rfl) (u8v_one _) ?_; intro w9 hb9 hg9))
   exact bodyPost_ret (results_blk rfl _ _ (w.heap.size + 2) 89 (lz.map u8v) 64 5 rfl hb9 Tryz.underlying89 (cells64 lz HLz.out)) rfl ⟨by rw [HZ.out], below_blk HB.out.2.2 hg9 (by omega)⟩
/-- the first j bytes of the result, then zeros -/
def xorRow (x : List UInt8) (n j : Nat) : List UInt8 := x.take j ++ List.replicate (n - j) 0
theorem xorRow_zero (x : List UInt8) (n : Nat) : xorRow x n 0 = List.replicate n 0 := by simp [xorRow]
theorem xorRow_end (x : List UInt8) (n j : Nat) (h : x.length = n) (hj : n ≤ j) : xorRow x n j = x := by
 simp [xorRow, List.take_of_length_le (show x.length ≤ j by omega), show n - j = 0 by omega]
theorem xorRow_set (x : List UInt8) (n j : Nat) (h : x.length = n) (hj : j < n) : (xorRow x n j).set j (x[j]'(by omega)) = xorRow x n (j + 1) := by
 unfold xorRow
 have hl : (x.take j).length = j := by rw [List.length_take]; omega
 rw [List.set_append_right _ _ (by omega), hl, Nat.sub_self, show n - j = (n - (j + 1)) + 1 by omega, List.replicate_succ, List.set_cons_zero, List.take_succ_eq_append_getElem (by omega), List.append_assoc]
 rfl
theorem xor_byte (k : List UInt8) (c : UInt32) (nn l : List UInt8) (q j : Nat) (h1 : 64 * q ≤ j) (h2 : j < 64 * q + 64) (hj : j < l.length) (bl : List UInt8) (hbl : bl = blockL k (c + UInt32.ofNat q) nn) (hlen : j - 64 * q < bl.length) :
 (xorL k c nn l)[j]'(by rw [xorL_length]; exact hj) = l[j] ^^^ bl[j - 64 * q] := by
 rw [xorL_get _ _ _ _ _ hj]
 have h : streamB k c nn j = bl[j - 64 * q] := by
  unfold streamB
  rw [show j / 64 = q by omega, show j % 64 = j - 64 * q by omega, ← hbl]
  simp [List.getD, hlen]
 rw [h]
theorem u8_xor_val (a b : UInt8) : bits BinOp.xor IntKind.u8 (a.toNat : Int) (b.toNat : Int) = ((a ^^^ b).toNat : Int) := by
 rw [UInt8.toNat_xor, u8_xor_nat _ _ a.toNat_lt b.toNat_lt]
theorem blockL_length (k : List UInt8) (c : UInt32) (n : List UInt8) : (blockL k c n).length = 64 := by
 obtain ⟨ws, hws⟩ : ∃ ws, (coreW 10 (stateW k c n)).zipWith (· + ·) (stateW k c n) = ws := ⟨_, rfl⟩
 have h : ws.length = 16 := by rw [← hws, List.length_zipWith, coreW_length, stateW_length]; rfl
 have e : blockL k c n = bytesW ws := by rw [← hws]; unfold blockL bytesW; rfl
 rw [e, bytesW_length, h]
set_option maxRecDepth 100000 in
set_option maxHeartbeats 4000000 in
theorem xor_any (k nn : List UInt8) (hk : k.length = 32) (hn : nn.length = 12) (c : UInt32) (B : Nat) (D : Option Addr) (n cap : Nat) (l : List UInt8) (hn6 : n ≤ 1000000) (w : World) (hB : B ≤ w.heap.size) (hr : Rd w B D n l) :
 Calls Tryz.prog 52 #[.agg (k.map u8v).toArray, .int .u32 (c.toNat : Int), .agg (nn.map u8v).toArray, .slice D n cap] w fun e w' => ∃ G, e = .returned (.slice (some ⟨G, 0, none⟩) n n) ∧ w'.ownsRow w.heap.size 5 1 (.slice (some ⟨G, 0, none⟩) n n) n ((xorL k c nn l).map u8v) ∧ Below w.heap.size w w' := by
 obtain ⟨i0, hi, hz0, hz1, hz2⟩ := info_parts Tryz.info5
 have BC := fun (c' : UInt32) (w' : World) => block_any k nn hk hn c' w'
 obtain ⟨ck, hck⟩ : ∃ ck, (k.map u8v).toArray = ck := ⟨_, rfl⟩
 obtain ⟨cn, hcn⟩ : ∃ cn, (nn.map u8v).toArray = cn := ⟨_, rfl⟩
 rw [hck, hcn] at BC
 rw [hck, hcn]
 have HK0 := Lib.hid (show Blk (w.alloc (.cells ck 23)) w.heap.size 23 (k.map u8v) by rw [← hck]; exact Blk.new w _ _)
 have HN0 := Lib.hid (show Blk ((w.alloc (.cells ck 23)).alloc (.cells cn 57)) (w.heap.size + 1) 57 (nn.map u8v) by rw [← hcn]; exact Blk.new' _ (by simp) _ _)
 have HCK := Lib.hid hck
 have HCN := Lib.hid hcn
 have HBC := Lib.hid BC
 have HK := Lib.hid hk
 have HN := Lib.hid hn
 have HR := Lib.hid hr
 have HLN := Lib.hid hr.1
 clear hk hn hck hcn BC hr
 go_enter Tryz.func52, Tryz.ntmps52
 go_upto_region 1 with fail
 have hk1 := HK0.out.alloc (.cells cn 57)
 have hn1 := HN0.out
 have hbel1 : Below w.heap.size w ((w.alloc (.cells ck 23)).alloc (.cells cn 57)) := ((Below.refl _ _).alloc (Nat.le_refl _) _).alloc (by simp) _
 have hs1 : ((w.alloc (.cells ck 23)).alloc (.cells cn 57)).heap.size = w.heap.size + 2 := by simp
 clear HK0 HN0
 generalize (w.alloc (.cells ck 23)).alloc (.cells cn 57) = w1 at hk1 hn1 hbel1 hs1 ⊢
 have H1 := Lib.hid (And.intro hk1 (And.intro hn1 (And.intro hbel1 hs1)))
 clear hk1 hn1 hbel1 hs1
 go_upto_region 2 with (refine wpList_make_full _ rfl (.tmp 14) (.tmp 14) 29 rfl w1.heap.size 5 i0 (.int .u8 0) 1 Tryz.underlying29 hi hz0 hz1 .i64 .i64 n n n rfl rfl rfl rfl (by rw [hz2]; omega) (by unfold maxLen; omega) (Nat.le_refl _) ?_; intro w2 hown2 hg2)
 have EX := Lib.hid (show madeCells (Value.int IntKind.u8 0).cells (n * 1) = madeCells (Value.int IntKind.u8 0).cells (n * 1) from rfl)
 obtain ⟨X, hX⟩ : ∃ X, xorL k c nn l = X := ⟨_, rfl⟩
 have HXL := Lib.hid (show X.length = n by rw [← hX, xorL_length]; exact HLN.out)
 have HX := Lib.hid hX
 have H2 := Lib.hid (show Blk w2 w.heap.size 23 (k.map u8v) ∧ Blk w2 (w.heap.size + 1) 57 (nn.map u8v) ∧ w2.ownsRow (w.heap.size + 2) 5 1 (.slice (some ⟨w.heap.size + 2, 0, none⟩) n n) n ((xorRow X n 0).map u8v) ∧ Below w.heap.size w w2 by
  have hs := H1.out.2.2.2
  refine ⟨H1.out.1.grown hg2 (by simp), H1.out.2.1.grown hg2 (by simp), ?_, Below.grown H1.out.2.2.1 hg2 H1.out.2.2.1.size (by simp)⟩
  rw [show (Value.int IntKind.u8 0).cells = #[.int .u8 0] from rfl, toList_madeCells_one, Nat.mul_one, hs] at hown2
  rw [xorRow_zero, List.map_replicate]
  exact hown2)
 clear hX EX hown2 hg2
 rw [H1.out.2.2.2]
 clear H1
 go_wp2_with fail
 go_loopw [1, 10] (fun cc i wr => ∃ (q b : Nat) (cq : UInt32), Hid (b = 64 * q ∧ c + UInt32.ofNat q = cq) ∧ b < n + 64 ∧ i = .int .i64 (b : Int) ∧ cc = .int .u32 (cq.toNat : Int) ∧ Blk wr w.heap.size 23 (k.map u8v) ∧ Blk wr (w.heap.size + 1) 57 (nn.map u8v) ∧ wr.ownsRow (w.heap.size + 2) 5 1 (.slice (some ⟨w.heap.size + 2, 0, none⟩) n n) n ((xorRow X n (min b n)).map u8v) ∧ Below w.heap.size w wr) (fun _ i _ => n + 64 - (intOf i).toNat)
 case atStart => exact ⟨0, 0, c, Lib.hid ⟨rfl, by simp⟩, by omega, rfl, rfl, H2.out.1, H2.out.2.1, by rw [Nat.min_eq_left (by omega)]; exact H2.out.2.2.1, H2.out.2.2.2⟩
 case round =>
  clear H2
  obtain ⟨q, b, cq, HBQ, hbn, rfl, rfl, hk1, hn1, hown, hbel⟩ := hrel
  by_cases hlt : b < n
  ·
   have d16 : decide ((b : Int) < (n : Int)) = true := by simp; omega
   rw [Nat.min_eq_left (by omega)] at hown
   have hks := hk1.lt
   have hns := hn1.lt
   have HO := Lib.hid hown
   have HBL := Lib.hid hbel
   clear hown hbel
   obtain ⟨bl, hbl⟩ : ∃ bl, blockL k cq nn = bl := ⟨_, rfl⟩
   have HB := HBC.out cq
   rw [hbl] at HB
   have H64 := Lib.hid (show bl.length = 64 by rw [← hbl]; exact blockL_length _ _ _)
   have HBB := Lib.hid hbl
   obtain ⟨sb, hsb⟩ : ∃ sb, (bl.map u8v).toArray = sb := ⟨_, rfl⟩
   rw [hsb] at HB
   have HSB := Lib.hid hsb
   have HCB := Lib.hid HB
   clear HB hbl hsb
   go_wp2_with (first | (refine wpList_load_blk rfl 23 (.tmp 4) rfl w.heap.size rfl 23 (k.map u8v) hk1 32 5 Tryz.underlying23 (cells32 k HK.out) ?_; rw [HCK.out]) | (refine wpList_load_blk rfl 57 (.tmp 6) rfl (w.heap.size + 1) rfl 57 (nn.map u8v) hn1 12 5 Tryz.underlying57 (cells12 nn HN.out) ?_; rw [HCN.out]))
   clear d16
   refine (HCB.out _).mono ?_
   rintro e w3 ⟨rfl, hb3⟩
   have H3 := Lib.hid (show Blk w3 w.heap.size 23 (k.map u8v) ∧ Blk w3 (w.heap.size + 1) 57 (nn.map u8v) ∧ w3.ownsRow (w.heap.size + 2) 5 1 (.slice (some ⟨w.heap.size + 2, 0, none⟩) n n) n ((xorRow X n b).map u8v) ∧ Below w.heap.size w w3 from ⟨hk1.below hb3 hks, hn1.below hb3 hns, own_below HO.out hb3, HBL.out.trans (hb3.mono HBL.out.size)⟩)
   clear hk1 hn1 HO HBL hb3 hks hns
   go_upto_region 6 with (refine wpList_store_blk rfl 89 (.tmp 11) (.tmp 25) rfl w3.heap.size (bl.map u8v) rfl (by rw [HSB.out]; rfl) 89 z64 (Blk.new w3 89 z64) (cells64 bl H64.out) (by rw [List.length_map, H64.out]; rfl) (u8v_one _) ?_; intro w4 hb4 hg4)
   simp only [Act.put]
   have hs3 : w.heap.size + 2 < w3.heap.size ∨ n = 0 := by
    rcases H3.out.2.2.1.2 with ⟨h, _⟩ | ⟨g, cap', cur, h, _⟩
    · cases h
    · exact .inl ((H3.out.2.2.1.lt _ rfl).2)
   have hs3 : w.heap.size + 2 < w3.heap.size := by omega
   have H4 := Lib.hid (show Blk w4 w3.heap.size 89 (bl.map u8v) ∧ Blk w4 w.heap.size 23 (k.map u8v) ∧ Blk w4 (w.heap.size + 1) 57 (nn.map u8v) ∧ w4.ownsRow (w.heap.size + 2) 5 1 (.slice (some ⟨w.heap.size + 2, 0, none⟩) n n) n ((xorRow X n b).map u8v) ∧ Below w.heap.size w w4 from ⟨hb4, (H3.out.1.alloc _).grown hg4 (by simp; omega), (H3.out.2.1.alloc _).grown hg4 (by simp; omega), (H3.out.2.2.1.alloc _).kept hg4 (.inr (by simp [Value.ownBlock]; omega)), Below.grown (H3.out.2.2.2.alloc H3.out.2.2.2.size (.cells z64.toArray 89)) hg4 (by simp; omega) (by intro k hk; injection hk with hk; omega)⟩)
   clear hb4 hg4 H3
   have HS3 := Lib.hid hs3
   clear hs3
   generalize w3.heap.size = P at H4 HS3 ⊢
   go_wp2_with fail
   obtain ⟨m, hm⟩ : ∃ m, m = min (b + 64) n := ⟨_, rfl⟩
   have hmv : (if (n : Int) < (b : Int) + 64 then (n : Int) else (b : Int) + 64) = (m : Int) := by
    split <;> omega
   have hbm : b ≤ m := by omega
   have hmn : m ≤ n := by omega
   have hmb : m ≤ b + 64 := by omega
   have HM := Lib.hid hm
   clear hm
   go_loopw [12] (fun i wr => ∃ j : Nat, b ≤ j ∧ j ≤ m ∧ i = .int .i64 (j : Int) ∧ Blk wr P 89 (bl.map u8v) ∧ Blk wr w.heap.size 23 (k.map u8v) ∧ Blk wr (w.heap.size + 1) 57 (nn.map u8v) ∧ wr.ownsRow (w.heap.size + 2) 5 1 (.slice (some ⟨w.heap.size + 2, 0, none⟩) n n) n ((xorRow X n j).map u8v) ∧ Below w.heap.size w wr) (fun i _ => n - (intOf i).toNat)
   case atStart => exact ⟨b, Nat.le_refl _, by omega, rfl, H4.out.1, H4.out.2.1, H4.out.2.2.1, H4.out.2.2.2.1, H4.out.2.2.2.2⟩
   case round =>
    clear H4
    obtain ⟨j, hbj, hjm, rfl, hp, hk1, hn1, hown, hbel⟩ := hrel
    have HH := Lib.hid (And.intro hp (And.intro hk1 (And.intro hn1 (And.intro hown hbel))))
    clear hp hk1 hn1 hown hbel
    by_cases hjl : j < m
    ·
     have dj : decide ((j : Int) < (m : Int)) = true := by simp; omega
     obtain ⟨t, ht⟩ : ∃ t, j - b = t := ⟨_, rfl⟩
     have hsb : (j : Int) - (b : Int) = (t : Int) := by omega
     have ht64 : t < 64 := by omega
     have hjn : j < n := by omega
     have hjl' : j < l.length := by rw [HLN.out]; omega
     have htl : t < bl.length := by rw [H64.out]; omega
     obtain ⟨db, off, rfl, hdb, hc⟩ := (HR.out.below (HH.out.2.2.2.2.mono hB)).at_ (by omega)
     have fx := hc j hjl'
     clear hc
     have fy := HH.out.1.cell t
     rw [map_u8v_getElem? bl t htl] at fy
     have hjX : j < X.length := by rw [HXL.out]; omega
     have hX : bits BinOp.xor IntKind.u8 (l[j].toNat : Int) (bl[t].toNat : Int) = (X[j].toNat : Int) := by
      rw [u8_xor_val]
      have hq := HBQ.out.1
      have e := xor_byte k c nn l q j (by omega) (by omega) hjl' bl (by rw [HBQ.out.2, HBB.out]) (by omega)
      have e2 : (xorL k c nn l)[j]'(by rw [xorL_length]; exact hjl') = X[j] := by simp only [HX.out]
      rw [e2] at e
      rw [e]
      simp only [← hq, ht]
     generalize l[j] = xb at fx hX
     generalize bl[t] = yb at fy hX
     obtain ⟨zb, hzb⟩ : ∃ zb, X[j] = zb := ⟨_, rfl⟩
     rw [hzb] at hX
     have hfz := HH.out.2.2.2.1.frozenAt j
     have hcl : ∃ u, wr.cell? ⟨w.heap.size + 2, j, none⟩ = some u := by
      rw [HH.out.2.2.2.1.cellAt j (by omega)]
      exact ⟨_, List.getElem?_eq_getElem (by rw [HH.out.2.2.2.1.1]; omega)⟩
     obtain ⟨u, hcl⟩ := hcl
     have HZ := Lib.hid hzb
     clear hzb ht
     go_upto_region 9 with fail
     go_region
     have hh := (HH.out.2.2.2.1.stored j (u8v zb)).1
     rw [← List.map_set, ← HZ.out, xorRow_set X n j HXL.out hjn, HZ.out] at hh
     have HN9 := Lib.hid (And.intro (HH.out.1.far (p := ⟨w.heap.size + 2, j, none⟩) (by have := HS3.out; simp; omega) (.int .u8 (zb.toNat : Int))) (And.intro (HH.out.2.1.far (p := ⟨w.heap.size + 2, j, none⟩) (by simp) (.int .u8 (zb.toNat : Int))) (And.intro (HH.out.2.2.1.far (p := ⟨w.heap.size + 2, j, none⟩) (by simp) (.int .u8 (zb.toNat : Int))) (And.intro hh (HH.out.2.2.2.2.setCell (p := ⟨w.heap.size + 2, j, none⟩) (by dsimp only; omega) (.int .u8 (zb.toNat : Int)))))))
     clear hh HH fx fy hX hfz hcl HZ dj hsb
     go_wp2
     go_roundw
     case rel => exact ⟨j + 1, by omega, by omega, by go_num, HN9.out.1.drew, HN9.out.2.1.drew, HN9.out.2.2.1.drew, HN9.out.2.2.2.1.drew, HN9.out.2.2.2.2.drew⟩
     case measure => simp [intOf]; omega
    ·
     obtain rfl : j = m := by omega
     obtain ⟨c1, hc1⟩ : ∃ c1, cq + 1 = c1 := ⟨_, rfl⟩
     have hcv : ((cq.toNat : Int) + 1) % 4294967296 = (c1.toNat : Int) := by
      rw [← hc1, UInt32.toNat_add]
      rfl
     have HC1 := Lib.hid hc1
     have HCV := Lib.hid hcv
     clear hcv
     have dj : decide ((j : Int) < (j : Int)) = false := by simp
     clear hc1
     go_wp2
     go_roundw
     case rel => exact ⟨q + 1, b + 64, c1, Lib.hid ⟨by have := HBQ.out.1; omega, by rw [← HC1.out, ← HBQ.out.2, UInt32.add_assoc, UInt32.ofNat_add]; rfl⟩, by omega, by go_num, congrArg (Value.int .u32) HCV.out, HH.out.2.1, HH.out.2.2.1, by rw [← HM.out]; exact HH.out.2.2.2.1, HH.out.2.2.2.2⟩
     case measure => simp [intOf]; omega
  ·
   have hfin := hown
   rw [Nat.min_eq_right (by omega), xorRow_end X n n HXL.out (Nat.le_refl _)] at hfin
   have HF := Lib.hid (And.intro hfin hbel)
   clear hfin hown hbel hk1 hn1
   have d16 : decide ((b : Int) < (n : Int)) = false := by simp; omega
   go_wp2
   go_ret
   exact ⟨w.heap.size + 2, rfl, by rw [HX.out]; exact own_base HF.out.1 (by omega), HF.out.2⟩
/-- the key at block K, the nonce behind it, the slices of L read as their bytes, and all from w0 on is later -/
def Env (w0 : World) (K : Nat) (k nn : List UInt8) (L : List (Option Addr × Nat × List UInt8)) (W : World) : Prop :=
 Blk W K 23 (k.map u8v) ∧ Blk W (K + 1) 57 (nn.map u8v) ∧ (∀ p ∈ L, Rd W W.heap.size p.1 p.2.1 p.2.2) ∧ Below w0.heap.size w0 W
section
variable {w0 W W' : World} {K : Nat} {k nn : List UInt8} {L : List (Option Addr × Nat × List UInt8)}
theorem Env.below (h : Env w0 K k nn L W) (hb : Below W.heap.size W W') : Env w0 K k nn L W' :=
 ⟨h.1.below hb h.1.lt, h.2.1.below hb h.2.1.lt, fun p hp => ((h.2.2.1 p hp).below hb).mono hb.size, h.2.2.2.trans (hb.mono h.2.2.2.size)⟩
theorem Env.drew (h : Env w0 K k nn L W) : Env w0 K k nn L W.drew := h.below ((Below.refl _ _).drew)
theorem Env.cons (h : Env w0 K k nn L W) {A : Option Addr} {n : Nat} {l : List UInt8} (hr : Rd W W.heap.size A n l) : Env w0 K k nn ((A, n, l) :: L) W :=
 ⟨h.1, h.2.1, fun p hp => by
  rcases List.mem_cons.1 hp with rfl | hp
  · exact hr
  · exact h.2.2.1 p hp, h.2.2.2⟩
theorem Env.rd (h : Env w0 K k nn L W) {A : Option Addr} {n : Nat} {l : List UInt8} (hm : (A, n, l) ∈ L) : Rd W W.heap.size A n l := h.2.2.1 _ hm
end
theorem wordL_join (a b : List UInt8) (ha : a.length = 4) (i : Nat) : wordL (a ++ b) (i + 1) = wordL b i := by
 unfold wordL
 rw [List.drop_append, List.drop_of_length_le (by omega), ha, List.nil_append, show 4 * (i + 1) - 4 = 4 * i by omega]
theorem wordL_first (c : UInt32) (b : List UInt8) : wordL (littleL c.toNat 4 ++ b) 0 = c := by
 apply UInt32.toNat.inj
 rw [wordL_toNat, Nat.mul_zero, List.drop_zero, List.take_append_of_le_length (by rw [littleL_length]; omega), List.take_of_length_le (by rw [littleL_length]; omega), numL_little]
 exact Nat.mod_eq_of_lt c.toNat_lt
theorem state_rest (k : List UInt8) (c : UInt32) (n : List UInt8) : fillW (fillW baseW 4 (wordL k) 8) 12 (wordL (littleL c.toNat 4 ++ n)) 4 = stateW k c n := by
 have h0 := wordL_first c n
 have h1 := wordL_join (littleL c.toNat 4) n (littleL_length _ _) 0
 have h2 := wordL_join (littleL c.toNat 4) n (littleL_length _ _) 1
 have h3 := wordL_join (littleL c.toNat 4) n (littleL_length _ _) 2
 generalize littleL c.toNat 4 ++ n = r at h0 h1 h2 h3 ⊢
 simp only [Nat.zero_add] at h1 h2 h3
 simp [fillW, baseW, stateW, List.range_succ, h0, h1, h2, h3]
set_option maxRecDepth 100000 in
set_option maxHeartbeats 1000000 in
theorem refState_any (k : List UInt8) (hk : k.length = 32) (B : Nat) (db off cap : Nat) (rl : List UInt8) (hcap : 16 ≤ cap) (hcm : cap ≤ maxLen) (w : World) (hB : B ≤ w.heap.size) (hr : Rd w B (some ⟨db, off, none⟩) 16 rl) :
 Calls Tryz.prog 62 #[.agg (k.map u8v).toArray, .slice (some ⟨db, off, none⟩) 16 cap] w fun e w' => e = .returned (.agg ((fillW (fillW baseW 4 (wordL k) 8) 12 (wordL rl) 4).map u32v).toArray) ∧ Below w.heap.size w w' := by
 obtain ⟨ck, hck⟩ : ∃ ck, (k.map u8v).toArray = ck := ⟨_, rfl⟩
 rw [hck]
 obtain ⟨i0, hi, hz0, hz1, hz2⟩ := info_parts Tryz.info5
 have HK0 := Lib.hid (show Blk (w.alloc (.cells ck 23)) w.heap.size 23 (k.map u8v) by rw [← hck]; exact Blk.new w _ _)
 have HK := Lib.hid hk
 have HBM := Lib.hid base_map
 have HR := Lib.hid hr
 clear hk hck hr
 unfold maxLen at hcm
 go_enter Tryz.func62, Tryz.ntmps62
 go_upto_region 1 with fail
 have hk1 := HK0.out.alloc (.cells z16.toArray 86)
 have hzz1 : Blk ((w.alloc (.cells ck 23)).alloc (.cells z16.toArray 86)) (w.heap.size + 1) 86 z16 := Blk.new' _ (by simp) _ _
 have hbel1 : Below w.heap.size w ((w.alloc (.cells ck 23)).alloc (.cells z16.toArray 86)) := ((Below.refl _ _).alloc (Nat.le_refl _) _).alloc (by simp) _
 have hs1 : ((w.alloc (.cells ck 23)).alloc (.cells z16.toArray 86)).heap.size = w.heap.size + 2 := by simp
 clear HK0
 rw [z16_arr] at hk1 hzz1 hbel1 hs1
 generalize ((w.alloc (.cells ck 23)).alloc (.cells zw16_ 86)) = W1 at hk1 hzz1 hbel1 hs1 ⊢
 go_upto_region 2 with (refine wpList_store_blk rfl 86 (.tmp 5) (.tmp 8) rfl (w.heap.size + 2) (baseW.map u32v) rfl (by rw [HBM.out]; rfl) 86 z16 (Blk.new' W1 hs1.symm 86 z16) (cells16 baseW rfl) rfl (u32v_one _) ?_; intro w2 hb2 hg2)
 simp only [Act.put]
 have B2 := Lib.hid (show Blk w2 (w.heap.size + 2) 86 (baseW.map u32v) ∧ Blk w2 w.heap.size 23 (k.map u8v) ∧ Blk w2 (w.heap.size + 1) 86 z16 ∧ Below w.heap.size w w2 from
  ⟨hb2, (hk1.alloc _).grown hg2 (by simp), (hzz1.alloc _).grown hg2 (by simp), Below.grown (hbel1.alloc (by omega) _) hg2 (by simp; omega) (by intro k hk; injection hk with hk; omega)⟩)
 clear hs1 hk1 hzz1 hbel1 hg2 hb2 HBM
 go_wp2_with fail
 go_loopw [6] (fun i wr => ∃ j : Nat, j ≤ 8 ∧ i = .int .i64 (j : Int) ∧ Blk wr (w.heap.size + 2) 86 ((fillW baseW 4 (wordL k) j).map u32v) ∧ Blk wr w.heap.size 23 (k.map u8v) ∧ Blk wr (w.heap.size + 1) 86 z16 ∧ Below w.heap.size w wr) (fun i _ => 8 - (intOf i).toNat)
 case atStart => exact ⟨0, by omega, rfl, B2.out.1, B2.out.2.1, B2.out.2.2.1, B2.out.2.2.2⟩
 case round =>
  clear B2
  obtain ⟨j, hj, rfl, hblk, hk, hz, hbel⟩ := hrel
  by_cases hlt : j < 8
  ·
   have d8 : decide ((j : Int) < 8) = true := by simp; omega
   have rd := hk.rd (4 * j) 4 (by have := HK.out; omega)
   have RL := Lib.hid (readRefLittle_any _ _ 4 (32 - 4 * j) _ (by omega) wr rd)
   have hlen : (fillW baseW 4 (wordL k) j).length = 16 := by rw [fillW_length]; rfl
   have fx := hblk.word (4 + j) (by omega)
   have zx := hblk.frozen (4 + j)
   have WW := Lib.hid (word_wrap k j)
   have HN := Lib.hid (And.intro (hblk.setWord (4 + j) (wordL k j)) (And.intro (hk.far (p := ⟨w.heap.size + 2, 4 + j, none⟩) (by simp) (.int .u32 ((wordL k j).toNat : Int))) (And.intro (hz.far (p := ⟨w.heap.size + 2, 4 + j, none⟩) (by simp) (.int .u32 ((wordL k j).toNat : Int))) (hbel.setCell (p := ⟨w.heap.size + 2, 4 + j, none⟩) (by dsimp only; omega) (.int .u32 ((wordL k j).toNat : Int))))))
   clear hblk hk hz hbel rd hlen
   have hsl : ∀ w' : World, (Instr.sliceAt 23 (.pointer (some ⟨w.heap.size, 0, none⟩)) (some (.int .i64 (4 * (j : Int)))) (some (.int .i64 (4 * (j : Int) + 4))) none).run Tryz.prog w' = .ok (.slice (some ⟨w.heap.size, 4 * j, none⟩) 4 (32 - 4 * j)) w' := fun w' => by
    have := run_slice_array (P := Tryz.prog) w' 23 5 32 Tryz.underlying23 i0 hi hz1 w.heap.size .i64 .i64 (4 * j) (4 * j + 4) (4 * (j : Int)) (4 * (j : Int) + 4) (by omega) (by omega) (by omega) (by omega) (by omega)
    rwa [show 4 * j + 4 - 4 * j = 4 by omega] at this
   go_wp2_with fail
   refine RL.out.mono ?_
   rintro e w1 ⟨rfl, rfl⟩
   clear RL
   obtain ⟨M, hM⟩ : ∃ M, numL (((k.drop (4 * j)).take 4).take 8) = M := ⟨_, rfl⟩
   have WN := WW.out
   rw [hM] at WN ⊢
   clear hM WW
   go_wp2
   go_roundw
   case rel =>
    exact ⟨j + 1, by omega, by go_num, HN.out.1, HN.out.2.1, HN.out.2.2.1, HN.out.2.2.2⟩
   case measure => simp [intOf]; omega
  ·
   obtain rfl : j = 8 := by omega
   have B3 := Lib.hid (And.intro hblk (And.intro hz hbel))
   clear hblk hk hz hbel
   rw [show ((8 : Nat) : Int) = 8 from rfl]
   go_wp2_with fail
   go_loopw [7] (fun i wr => ∃ j : Nat, j ≤ 4 ∧ i = .int .i64 (j : Int) ∧ Blk wr (w.heap.size + 2) 86 ((fillW (fillW baseW 4 (wordL k) 8) 12 (wordL rl) j).map u32v) ∧ Blk wr (w.heap.size + 1) 86 z16 ∧ Below w.heap.size w wr) (fun i _ => 4 - (intOf i).toNat)
   case atStart => exact ⟨0, by omega, rfl, B3.out.1, B3.out.2.1, B3.out.2.2⟩
   case round =>
    clear B3
    obtain ⟨j, hj, rfl, hblk, hz, hbel⟩ := hrel
    by_cases hlt : j < 4
    ·
     have d4 : decide ((j : Int) < 4) = true := by simp; omega
     have rd := (((HR.out.below (hbel.mono hB)).drop (4 * j) db off rfl (by omega)).take (m := 4) (by omega))
     have RL := Lib.hid (readRefLittle_any _ _ 4 (cap - 4 * j) _ (by omega) wr rd)
     have hlen : (fillW (fillW baseW 4 (wordL k) 8) 12 (wordL rl) j).length = 16 := by rw [fillW_length, fillW_length]; rfl
     have fx := hblk.word (12 + j) (by omega)
     have zx := hblk.frozen (12 + j)
     have WW := Lib.hid (word_wrap rl j)
     have HN := Lib.hid (And.intro (hblk.setWord (12 + j) (wordL rl j)) (And.intro (hz.far (p := ⟨w.heap.size + 2, 12 + j, none⟩) (by simp) (.int .u32 ((wordL rl j).toNat : Int))) (hbel.setCell (p := ⟨w.heap.size + 2, 12 + j, none⟩) (by dsimp only; omega) (.int .u32 ((wordL rl j).toNat : Int)))))
     clear hblk hz hbel rd hlen
     have b1 : 4 * (j : Int) + 4 ≤ (cap : Int) := by omega
     have b2 : ¬ cap = 4 * j := by omega
     go_wp2_with fail
     rw [show 4 * j + 4 - 4 * j = 4 by omega]
     refine RL.out.mono ?_
     rintro e w1 ⟨rfl, rfl⟩
     clear RL
     obtain ⟨M, hM⟩ : ∃ M, numL (((rl.drop (4 * j)).take 4).take 8) = M := ⟨_, rfl⟩
     have WN := WW.out
     rw [hM] at WN ⊢
     clear hM WW
     go_wp2
     go_roundw
     case rel =>
      exact ⟨j + 1, by omega, by go_num, HN.out.1, HN.out.2.1, HN.out.2.2⟩
     case measure => simp [intOf]; omega
    ·
     obtain rfl : j = 4 := by omega
     have HB := Lib.hid (And.intro hblk (And.intro hz hbel))
     clear hblk hz hbel
     have HLz := Lib.hid (show (fillW (fillW baseW 4 (wordL k) 8) 12 (wordL rl) 4).length = 16 by rw [fillW_length, fillW_length]; rfl)
     obtain ⟨lz, hlz⟩ : ∃ lz, fillW (fillW baseW 4 (wordL k) 8) 12 (wordL rl) 4 = lz := ⟨_, rfl⟩
     rw [hlz] at HB HLz
     have HSZ := Lib.hid hlz
     obtain ⟨cz, hcz⟩ : ∃ cz, (lz.map u32v).toArray = cz := ⟨_, rfl⟩
     have HCZ := Lib.hid hcz
     clear hcz hlz
     have d4 : decide (((4 : Nat) : Int) < 4) = false := by decide
     go_wp2_with (first | (refine wpList_load_blk rfl 86 (.tmp 5) rfl (w.heap.size + 2) rfl 86 (lz.map u32v) HB.out.1 16 28 Tryz.underlying86 (cells16 lz HLz.out) ?_; rw [HCZ.out]) | (refine wpList_store_blk rfl 86 (.tmp 4) (.tmp 40) rfl (w.heap.size + 1) (lz.map u32v) rfl (by show Value.agg cz = _; rw [HCZ.out]) 86 z16 HB.out.2.1 (cells16 lz HLz.out) (by rw [List.length_map, HLz.out]; rfl) (u32v_one _) ?_; intro w9 hb9 hg9))
     exact bodyPost_ret (results_blk rfl _ _ (w.heap.size + 1) 86 (lz.map u32v) 16 28 rfl hb9 Tryz.underlying86 (cells16 lz HLz.out)) rfl ⟨by rw [HSZ.out], below_blk HB.out.2.2 hg9 (by omega)⟩
end Go.Proofs.YtlddafkikkaonaaGreatDoor
