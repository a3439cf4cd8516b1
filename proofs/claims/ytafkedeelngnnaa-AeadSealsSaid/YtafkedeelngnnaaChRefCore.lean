/-
  The contract of the reference's quarter round. The contract of the reference's Core: ten double rounds of the words. No statement is proved here.
-/
import Derived.Test.YtafkedeelngnnaaChState
import Derived.Test.YtafkedeelngnnaaChRef
namespace Go.Proofs.Ytafkedeelngnnaa
open Go.RowKit

set_option maxRecDepth 100000 in
set_option maxHeartbeats 8000000 in
theorem refQuarter_any (l : List UInt32) (hl : l.length = 16) (a b c d : Nat) (ha : a < 16) (hb : b < 16) (hc : c < 16) (hd : d < 16) (w : World) :
    Calls Try.prog 44 #[.agg (l.map u32v).toArray, .int .i64 (a : Int), .int .i64 (b : Int), .int .i64 (c : Int), .int .i64 (d : Int)] w fun e w' => e = .returned (.agg ((quarterW l a b c d).map u32v).toArray) ∧ Below w.heap.size w w' := by
  obtain ⟨cl, hcl⟩ : ∃ cl, (l.map u32v).toArray = cl := ⟨_, rfl⟩
  rw [hcl]
  have HB0 := Lib.hid (show Blk (w.alloc (.cells cl 53)) w.heap.size 53 (l.map u32v) by rw [← hcl]; exact Blk.new w _ _)
  obtain ⟨lz, hlz⟩ : ∃ lz, quarterW l a b c d = lz := ⟨_, rfl⟩
  rw [hlz]
  have HLZ := Lib.hid hlz
  have HL := Lib.hid hl
  clear hlz hl
  go_enter Try.func44, Try.ntmps44
  go_upto_region 1 with fail
  have hblk := HB0.out.alloc (.cells z16.toArray 53)
  have hz : Blk ((w.alloc (.cells cl 53)).alloc (.cells z16.toArray 53)) (w.heap.size + 1) 53 z16 := Blk.new' _ (by simp) _ _
  have hbel : Below w.heap.size w ((w.alloc (.cells cl 53)).alloc (.cells z16.toArray 53)) := ((Below.refl _ _).alloc (Nat.le_refl _) _).alloc (by simp) _
  rw [z16_arr] at hblk hz hbel
  clear HB0 hcl
  generalize (w.alloc (.cells cl 53)).alloc (.cells #[.int .u32 0, .int .u32 0, .int .u32 0, .int .u32 0, .int .u32 0, .int .u32 0, .int .u32 0, .int .u32 0, .int .u32 0, .int .u32 0, .int .u32 0, .int .u32 0, .int .u32 0, .int .u32 0, .int .u32 0, .int .u32 0] 53) = W1 at hblk hz hbel ⊢
  go_cut [] (fun wx => Blk wx w.heap.size 53 ((addW l a b).map u32v) ∧ Blk wx (w.heap.size + 1) 53 z16 ∧ Below w.heap.size w wx)
  case first =>
    have fx := hblk.word a (by have := HL.out; omega)
    have fy := hblk.word b (by have := HL.out; omega)
    have zx := hblk.frozen a
    have R := Lib.hid (fun q : Nat => And.intro ((hblk.drewN q).setWord a (wd l a + wd l b)) (And.intro ((hz.drewN q).far (p := ⟨w.heap.size, a, none⟩) (by simp) (.int .u32 ((wd l a + wd l b).toNat : Int))) ((below_drewN hbel q).setCell (p := ⟨w.heap.size, a, none⟩) (Nat.le_refl _) (.int .u32 ((wd l a + wd l b).toNat : Int)))))
    clear hblk hbel hz
    go_region
    simp only [u32_sum]
    go_wp2
    go_meet
    exact ⟨(R.out 0).1, (R.out 0).2.1, below_drewN (R.out 0).2.2 1⟩
  case rest =>
    obtain ⟨hblk, hz, hbel⟩ := hcut
    obtain ⟨l1, hl1⟩ : ∃ l1, addW l a b = l1 := ⟨_, rfl⟩
    rw [hl1] at hblk
    have E1 := Lib.hid hl1
    have HL := Lib.hid (show l1.length = 16 by rw [← hl1, addW_length]; exact HL.out)
    clear hl1
    go_upto_region 2 with fail
    go_cut [] (fun wx => Blk wx w.heap.size 53 ((mixW l1 d a 16).map u32v) ∧ Blk wx (w.heap.size + 1) 53 z16 ∧ Below w.heap.size w wx)
    case first =>
      have fx := hblk.word d (by have := HL.out; omega)
      have fy := hblk.word a (by have := HL.out; omega)
      have zx := hblk.frozen d
      have R := Lib.hid (fun q : Nat => And.intro ((hblk.drewN q).setWord d (rotl (wd l1 d ^^^ wd l1 a) 16)) (And.intro ((hz.drewN q).far (p := ⟨w.heap.size, d, none⟩) (by simp) (.int .u32 ((rotl (wd l1 d ^^^ wd l1 a) 16).toNat : Int))) ((below_drewN hbel q).setCell (p := ⟨w.heap.size, d, none⟩) (Nat.le_refl _) (.int .u32 ((rotl (wd l1 d ^^^ wd l1 a) 16).toNat : Int)))))
      have cx := fun w' : World => refLeft_any (wd l1 d ^^^ wd l1 a) 16 (by omega) (by omega) w'
      simp only [← u32_xor] at cx
      clear hblk hbel hz
      go_region_with ((go_at_call 54; refine (cx _).mono ?_; rintro e wa ⟨rfl, qa, rfl⟩))
      all_goals (go_wp2; go_meet; exact R.out _)
    case rest =>
      obtain ⟨hblk, hz, hbel⟩ := hcut
      obtain ⟨l2, hl2⟩ : ∃ l2, mixW l1 d a 16 = l2 := ⟨_, rfl⟩
      rw [hl2] at hblk
      have E2 := Lib.hid hl2
      have HL := Lib.hid (show l2.length = 16 by rw [← hl2, mixW_length]; exact HL.out)
      clear hl2
      go_upto_region 3 with fail
      go_cut [] (fun wx => Blk wx w.heap.size 53 ((addW l2 c d).map u32v) ∧ Blk wx (w.heap.size + 1) 53 z16 ∧ Below w.heap.size w wx)
      case first =>
        have fx := hblk.word c (by have := HL.out; omega)
        have fy := hblk.word d (by have := HL.out; omega)
        have zx := hblk.frozen c
        have R := Lib.hid (fun q : Nat => And.intro ((hblk.drewN q).setWord c (wd l2 c + wd l2 d)) (And.intro ((hz.drewN q).far (p := ⟨w.heap.size, c, none⟩) (by simp) (.int .u32 ((wd l2 c + wd l2 d).toNat : Int))) ((below_drewN hbel q).setCell (p := ⟨w.heap.size, c, none⟩) (Nat.le_refl _) (.int .u32 ((wd l2 c + wd l2 d).toNat : Int)))))
        clear hblk hbel hz
        go_region
        simp only [u32_sum]
        go_wp2
        go_meet
        exact ⟨(R.out 0).1, (R.out 0).2.1, below_drewN (R.out 0).2.2 1⟩
      case rest =>
        obtain ⟨hblk, hz, hbel⟩ := hcut
        obtain ⟨l3, hl3⟩ : ∃ l3, addW l2 c d = l3 := ⟨_, rfl⟩
        rw [hl3] at hblk
        have E3 := Lib.hid hl3
        have HL := Lib.hid (show l3.length = 16 by rw [← hl3, addW_length]; exact HL.out)
        clear hl3
        go_upto_region 4 with fail
        go_cut [] (fun wx => Blk wx w.heap.size 53 ((mixW l3 b c 12).map u32v) ∧ Blk wx (w.heap.size + 1) 53 z16 ∧ Below w.heap.size w wx)
        case first =>
          have fx := hblk.word b (by have := HL.out; omega)
          have fy := hblk.word c (by have := HL.out; omega)
          have zx := hblk.frozen b
          have R := Lib.hid (fun q : Nat => And.intro ((hblk.drewN q).setWord b (rotl (wd l3 b ^^^ wd l3 c) 12)) (And.intro ((hz.drewN q).far (p := ⟨w.heap.size, b, none⟩) (by simp) (.int .u32 ((rotl (wd l3 b ^^^ wd l3 c) 12).toNat : Int))) ((below_drewN hbel q).setCell (p := ⟨w.heap.size, b, none⟩) (Nat.le_refl _) (.int .u32 ((rotl (wd l3 b ^^^ wd l3 c) 12).toNat : Int)))))
          have cx := fun w' : World => refLeft_any (wd l3 b ^^^ wd l3 c) 12 (by omega) (by omega) w'
          simp only [← u32_xor] at cx
          clear hblk hbel hz
          go_region_with ((go_at_call 54; refine (cx _).mono ?_; rintro e wa ⟨rfl, qa, rfl⟩))
          all_goals (go_wp2; go_meet; exact R.out _)
        case rest =>
          obtain ⟨hblk, hz, hbel⟩ := hcut
          obtain ⟨l4, hl4⟩ : ∃ l4, mixW l3 b c 12 = l4 := ⟨_, rfl⟩
          rw [hl4] at hblk
          have E4 := Lib.hid hl4
          have HL := Lib.hid (show l4.length = 16 by rw [← hl4, mixW_length]; exact HL.out)
          clear hl4
          go_upto_region 5 with fail
          go_cut [] (fun wx => Blk wx w.heap.size 53 ((addW l4 a b).map u32v) ∧ Blk wx (w.heap.size + 1) 53 z16 ∧ Below w.heap.size w wx)
          case first =>
            have fx := hblk.word a (by have := HL.out; omega)
            have fy := hblk.word b (by have := HL.out; omega)
            have zx := hblk.frozen a
            have R := Lib.hid (fun q : Nat => And.intro ((hblk.drewN q).setWord a (wd l4 a + wd l4 b)) (And.intro ((hz.drewN q).far (p := ⟨w.heap.size, a, none⟩) (by simp) (.int .u32 ((wd l4 a + wd l4 b).toNat : Int))) ((below_drewN hbel q).setCell (p := ⟨w.heap.size, a, none⟩) (Nat.le_refl _) (.int .u32 ((wd l4 a + wd l4 b).toNat : Int)))))
            clear hblk hbel hz
            go_region
            simp only [u32_sum]
            go_wp2
            go_meet
            exact ⟨(R.out 0).1, (R.out 0).2.1, below_drewN (R.out 0).2.2 1⟩
          case rest =>
            obtain ⟨hblk, hz, hbel⟩ := hcut
            obtain ⟨l5, hl5⟩ : ∃ l5, addW l4 a b = l5 := ⟨_, rfl⟩
            rw [hl5] at hblk
            have E5 := Lib.hid hl5
            have HL := Lib.hid (show l5.length = 16 by rw [← hl5, addW_length]; exact HL.out)
            clear hl5
            go_upto_region 6 with fail
            go_cut [] (fun wx => Blk wx w.heap.size 53 ((mixW l5 d a 8).map u32v) ∧ Blk wx (w.heap.size + 1) 53 z16 ∧ Below w.heap.size w wx)
            case first =>
              have fx := hblk.word d (by have := HL.out; omega)
              have fy := hblk.word a (by have := HL.out; omega)
              have zx := hblk.frozen d
              have R := Lib.hid (fun q : Nat => And.intro ((hblk.drewN q).setWord d (rotl (wd l5 d ^^^ wd l5 a) 8)) (And.intro ((hz.drewN q).far (p := ⟨w.heap.size, d, none⟩) (by simp) (.int .u32 ((rotl (wd l5 d ^^^ wd l5 a) 8).toNat : Int))) ((below_drewN hbel q).setCell (p := ⟨w.heap.size, d, none⟩) (Nat.le_refl _) (.int .u32 ((rotl (wd l5 d ^^^ wd l5 a) 8).toNat : Int)))))
              have cx := fun w' : World => refLeft_any (wd l5 d ^^^ wd l5 a) 8 (by omega) (by omega) w'
              simp only [← u32_xor] at cx
              clear hblk hbel hz
              go_region_with ((go_at_call 54; refine (cx _).mono ?_; rintro e wa ⟨rfl, qa, rfl⟩))
              all_goals (go_wp2; go_meet; exact R.out _)
            case rest =>
              obtain ⟨hblk, hz, hbel⟩ := hcut
              obtain ⟨l6, hl6⟩ : ∃ l6, mixW l5 d a 8 = l6 := ⟨_, rfl⟩
              rw [hl6] at hblk
              have E6 := Lib.hid hl6
              have HL := Lib.hid (show l6.length = 16 by rw [← hl6, mixW_length]; exact HL.out)
              clear hl6
              go_upto_region 7 with fail
              go_cut [] (fun wx => Blk wx w.heap.size 53 ((addW l6 c d).map u32v) ∧ Blk wx (w.heap.size + 1) 53 z16 ∧ Below w.heap.size w wx)
              case first =>
                have fx := hblk.word c (by have := HL.out; omega)
                have fy := hblk.word d (by have := HL.out; omega)
                have zx := hblk.frozen c
                have R := Lib.hid (fun q : Nat => And.intro ((hblk.drewN q).setWord c (wd l6 c + wd l6 d)) (And.intro ((hz.drewN q).far (p := ⟨w.heap.size, c, none⟩) (by simp) (.int .u32 ((wd l6 c + wd l6 d).toNat : Int))) ((below_drewN hbel q).setCell (p := ⟨w.heap.size, c, none⟩) (Nat.le_refl _) (.int .u32 ((wd l6 c + wd l6 d).toNat : Int)))))
                clear hblk hbel hz
                go_region
                simp only [u32_sum]
                go_wp2
                go_meet
                exact ⟨(R.out 0).1, (R.out 0).2.1, below_drewN (R.out 0).2.2 1⟩
              case rest =>
                obtain ⟨hblk, hz, hbel⟩ := hcut
                obtain ⟨l7, hl7⟩ : ∃ l7, addW l6 c d = l7 := ⟨_, rfl⟩
                rw [hl7] at hblk
                have E7 := Lib.hid hl7
                have HL := Lib.hid (show l7.length = 16 by rw [← hl7, addW_length]; exact HL.out)
                clear hl7
                go_upto_region 8 with fail
                go_cut [] (fun wx => Blk wx w.heap.size 53 ((mixW l7 b c 7).map u32v) ∧ Blk wx (w.heap.size + 1) 53 z16 ∧ Below w.heap.size w wx)
                case first =>
                  have fx := hblk.word b (by have := HL.out; omega)
                  have fy := hblk.word c (by have := HL.out; omega)
                  have zx := hblk.frozen b
                  have R := Lib.hid (fun q : Nat => And.intro ((hblk.drewN q).setWord b (rotl (wd l7 b ^^^ wd l7 c) 7)) (And.intro ((hz.drewN q).far (p := ⟨w.heap.size, b, none⟩) (by simp) (.int .u32 ((rotl (wd l7 b ^^^ wd l7 c) 7).toNat : Int))) ((below_drewN hbel q).setCell (p := ⟨w.heap.size, b, none⟩) (Nat.le_refl _) (.int .u32 ((rotl (wd l7 b ^^^ wd l7 c) 7).toNat : Int)))))
                  have cx := fun w' : World => refLeft_any (wd l7 b ^^^ wd l7 c) 7 (by omega) (by omega) w'
                  simp only [← u32_xor] at cx
                  clear hblk hbel hz
                  go_region_with ((go_at_call 54; refine (cx _).mono ?_; rintro e wa ⟨rfl, qa, rfl⟩))
                  all_goals (go_wp2; go_meet; exact R.out _)
                case rest =>
                  obtain ⟨hblk, hz, hbel⟩ := hcut
                  obtain ⟨l8, hl8⟩ : ∃ l8, mixW l7 b c 7 = l8 := ⟨_, rfl⟩
                  rw [hl8] at hblk
                  have E8 := Lib.hid hl8
                  have HL := Lib.hid (show l8.length = 16 by rw [← hl8, mixW_length]; exact HL.out)
                  clear hl8
                  have HZ : l8 = lz := by rw [← E8.out, ← E7.out, ← E6.out, ← E5.out, ← E4.out, ← E3.out, ← E2.out, ← E1.out]; exact HLZ.out
                  subst HZ
                  have HB := Lib.hid (And.intro hblk (And.intro hz hbel))
                  obtain ⟨cz, hcz⟩ : ∃ cz, (l8.map u32v).toArray = cz := ⟨_, rfl⟩
                  have HCZ := Lib.hid hcz
                  clear hblk hz hbel hcz
                  go_upto_region 9 with fail
                  go_wp2_with (first | (refine wpList_load_blk rfl 53 (.tmp 5) rfl w.heap.size rfl 53 (l8.map u32v) HB.out.1 16 41 Try.underlying53 (cells16 l8 HL.out) ?_; rw [HCZ.out]) | (refine wpList_store_blk rfl 53 (.tmp 10) (.tmp 83) rfl (w.heap.size + 1) (l8.map u32v) rfl (by show Value.agg cz = _; rw [HCZ.out]) 53 z16 HB.out.2.1 (cells16 l8 HL.out) (by rw [List.length_map, HL.out]; rfl) (u32v_one _) ?_; intro w9 hb9 hg9))
                  exact bodyPost_ret (results_blk rfl _ _ (w.heap.size + 1) 53 (l8.map u32v) 16 41 rfl hb9 Try.underlying53 (cells16 l8 HL.out)) rfl ⟨rfl, below_blk HB.out.2.2 hg9 (by omega)⟩

theorem refQ_at {l l' : List UInt32} {s s' : Array Value} (hl : l.length = 16) (a b c d : Nat) (X Y U V : Int) (hX : X = (a : Int)) (hY : Y = (b : Int)) (hU : U = (c : Int)) (hV : V = (d : Int)) (ha : a < 16) (hb : b < 16) (hc : c < 16) (hd : d < 16)
    (h : quarterW l a b c d = l') (hs : (l.map u32v).toArray = s) (hs' : (l'.map u32v).toArray = s') (w : World) :
    Calls Try.prog 44 #[.agg s, .int .i64 X, .int .i64 Y, .int .i64 U, .int .i64 V] w fun e w' => e = .returned (.agg s') ∧ Below w.heap.size w w' := by
  subst hX hY hU hV hs hs' h
  exact refQuarter_any l hl a b c d ha hb hc hd w

set_option maxRecDepth 100000 in
set_option maxHeartbeats 4000000 in
theorem refCore_any (l : List UInt32) (hl : l.length = 16) (w : World) :
    Calls Try.prog 30 #[.agg (l.map u32v).toArray] w fun e w' => e = .returned (.agg ((coreW 10 l).map u32v).toArray) ∧ Below w.heap.size w w' := by
  obtain ⟨cl, hcl⟩ : ∃ cl, (l.map u32v).toArray = cl := ⟨_, rfl⟩
  rw [hcl]
  have HB0 := Lib.hid (show Blk (w.alloc (.cells cl 53)) w.heap.size 53 (l.map u32v) by rw [← hcl]; exact Blk.new w _ _)
  obtain ⟨lz, hlz⟩ : ∃ lz, coreW 10 l = lz := ⟨_, rfl⟩
  rw [hlz]
  have HLZ := Lib.hid hlz
  have HL := Lib.hid hl
  clear hl hlz
  go_enter Try.func30, Try.ntmps30
  go_upto_region 1 with fail
  have hk1 := HB0.out.alloc (.cells z16.toArray 53)
  have hz1 : Blk ((w.alloc (.cells cl 53)).alloc (.cells z16.toArray 53)) (w.heap.size + 1) 53 z16 := Blk.new' _ (by simp) _ _
  have hbel1 : Below w.heap.size w ((w.alloc (.cells cl 53)).alloc (.cells z16.toArray 53)) := ((Below.refl _ _).alloc (Nat.le_refl _) _).alloc (by simp) _
  rw [z16_arr] at hk1 hz1 hbel1
  clear HB0 hcl
  generalize ((w.alloc (.cells cl 53)).alloc (.cells #[.int .u32 0, .int .u32 0, .int .u32 0, .int .u32 0, .int .u32 0, .int .u32 0, .int .u32 0, .int .u32 0, .int .u32 0, .int .u32 0, .int .u32 0, .int .u32 0, .int .u32 0, .int .u32 0, .int .u32 0, .int .u32 0] 53)) = w1 at hk1 hz1 hbel1 ⊢
  go_wp2_with fail
  go_loopw [3] (fun i wr => ∃ j : Nat, j ≤ 10 ∧ i = .int .i64 j ∧ Blk wr w.heap.size 53 ((coreW j l).map u32v) ∧ Blk wr (w.heap.size + 1) 53 z16 ∧ Below w.heap.size w wr) (fun i _ => 10 - (intOf i).toNat)
  case atStart => exact ⟨0, by omega, rfl, hk1, hz1, hbel1⟩
  case round =>
    obtain ⟨j, hj, rfl, hblk, hz, hbel⟩ := hrel
    clear hk1 hz1 hbel1
    by_cases hlt : j < 10
    · obtain ⟨l0, hl0⟩ : ∃ l0, coreW j l = l0 := ⟨_, rfl⟩
      rw [hl0] at hblk
      have HL0 := Lib.hid (show l0.length = 16 by rw [← hl0, coreW_length]; exact HL.out)
      have E0 := Lib.hid hl0
      clear hl0
      have d10 : decide ((j : Int) < 10) = true := by simp; omega
      obtain ⟨s0, hs0⟩ : ∃ s0, (l0.map u32v).toArray = s0 := ⟨_, rfl⟩
      have HS0 := Lib.hid hs0
      clear hs0
      have HB0 := Lib.hid (And.intro hblk (And.intro hz hbel))
      clear hblk hz hbel
      obtain ⟨l1, h1⟩ : ∃ l1, quarterW l0 0 4 8 12 = l1 := ⟨_, rfl⟩
      obtain ⟨s1, hs⟩ : ∃ s1, (l1.map u32v).toArray = s1 := ⟨_, rfl⟩
      have HL1 := Lib.hid (show l1.length = 16 by rw [← h1, quarterW_length]; exact HL0.out)
      have QC := Lib.hid (refQ_at (l := l0) HL0.out 0 4 8 12 0 4 8 12 rfl rfl rfl rfl (by omega) (by omega) (by omega) (by omega) h1 HS0.out hs)
      have E1 := Lib.hid h1
      have HS1 := Lib.hid hs
      clear h1 hs
      go_wp2_with (refine wpList_load_blk rfl 53 (.tmp 1) rfl w.heap.size rfl 53 (l0.map u32v) HB0.out.1 16 41 Try.underlying53 (cells16 l0 HL0.out) ?_; rw [HS0.out])
      clear d10
      refine (QC.out _).mono ?_
      rintro e w1 ⟨rfl, hq⟩
      have hb1 := HB0.out.1.below hq HB0.out.1.lt
      have hz1 := HB0.out.2.1.below hq HB0.out.2.1.lt
      have hw1 := HB0.out.2.2.trans (hq.mono HB0.out.2.2.size)
      clear hq QC
      go_upto_region 5 with (refine wpList_store_blk rfl 53 (.tmp 1) (.tmp 9) rfl w.heap.size (l1.map u32v) rfl (by rw [HS1.out]; rfl) 53 (l0.map u32v) hb1 (cells16 l1 HL1.out) (by rw [List.length_map, List.length_map, HL1.out, HL0.out]) (u32v_one _) ?_; intro x1 hbx hgx)
      try simp only [Act.put]
      have HB1 := Lib.hid (show Blk x1 w.heap.size 53 (l1.map u32v) ∧ Blk x1 (w.heap.size + 1) 53 z16 ∧ Below w.heap.size w x1 from ⟨hbx, hz1.grown hgx (by simp), below_blk hw1 hgx (Nat.le_refl _)⟩)
      clear hb1 hz1 hw1 hbx hgx HB0
      obtain ⟨l2, h2⟩ : ∃ l2, quarterW l1 1 5 9 13 = l2 := ⟨_, rfl⟩
      obtain ⟨s2, hs⟩ : ∃ s2, (l2.map u32v).toArray = s2 := ⟨_, rfl⟩
      have HL2 := Lib.hid (show l2.length = 16 by rw [← h2, quarterW_length]; exact HL1.out)
      have QC := Lib.hid (refQ_at (l := l1) HL1.out 1 5 9 13 1 5 9 13 rfl rfl rfl rfl (by omega) (by omega) (by omega) (by omega) h2 HS1.out hs)
      have E2 := Lib.hid h2
      have HS2 := Lib.hid hs
      clear h2 hs
      go_wp2_with (refine wpList_load_blk rfl 53 (.tmp 1) rfl w.heap.size rfl 53 (l1.map u32v) HB1.out.1 16 41 Try.underlying53 (cells16 l1 HL1.out) ?_; rw [HS1.out])
      refine (QC.out _).mono ?_
      rintro e w2 ⟨rfl, hq⟩
      have hb2 := HB1.out.1.below hq HB1.out.1.lt
      have hz2 := HB1.out.2.1.below hq HB1.out.2.1.lt
      have hw2 := HB1.out.2.2.trans (hq.mono HB1.out.2.2.size)
      clear hq QC
      go_upto_region 6 with (refine wpList_store_blk rfl 53 (.tmp 1) (.tmp 11) rfl w.heap.size (l2.map u32v) rfl (by rw [HS2.out]; rfl) 53 (l1.map u32v) hb2 (cells16 l2 HL2.out) (by rw [List.length_map, List.length_map, HL2.out, HL1.out]) (u32v_one _) ?_; intro x2 hbx hgx)
      try simp only [Act.put]
      have HB2 := Lib.hid (show Blk x2 w.heap.size 53 (l2.map u32v) ∧ Blk x2 (w.heap.size + 1) 53 z16 ∧ Below w.heap.size w x2 from ⟨hbx, hz2.grown hgx (by simp), below_blk hw2 hgx (Nat.le_refl _)⟩)
      clear hb2 hz2 hw2 hbx hgx HB1
      obtain ⟨l3, h3⟩ : ∃ l3, quarterW l2 2 6 10 14 = l3 := ⟨_, rfl⟩
      obtain ⟨s3, hs⟩ : ∃ s3, (l3.map u32v).toArray = s3 := ⟨_, rfl⟩
      have HL3 := Lib.hid (show l3.length = 16 by rw [← h3, quarterW_length]; exact HL2.out)
      have QC := Lib.hid (refQ_at (l := l2) HL2.out 2 6 10 14 2 6 10 14 rfl rfl rfl rfl (by omega) (by omega) (by omega) (by omega) h3 HS2.out hs)
      have E3 := Lib.hid h3
      have HS3 := Lib.hid hs
      clear h3 hs
      go_wp2_with (refine wpList_load_blk rfl 53 (.tmp 1) rfl w.heap.size rfl 53 (l2.map u32v) HB2.out.1 16 41 Try.underlying53 (cells16 l2 HL2.out) ?_; rw [HS2.out])
      refine (QC.out _).mono ?_
      rintro e w3 ⟨rfl, hq⟩
      have hb3 := HB2.out.1.below hq HB2.out.1.lt
      have hz3 := HB2.out.2.1.below hq HB2.out.2.1.lt
      have hw3 := HB2.out.2.2.trans (hq.mono HB2.out.2.2.size)
      clear hq QC
      go_upto_region 7 with (refine wpList_store_blk rfl 53 (.tmp 1) (.tmp 13) rfl w.heap.size (l3.map u32v) rfl (by rw [HS3.out]; rfl) 53 (l2.map u32v) hb3 (cells16 l3 HL3.out) (by rw [List.length_map, List.length_map, HL3.out, HL2.out]) (u32v_one _) ?_; intro x3 hbx hgx)
      try simp only [Act.put]
      have HB3 := Lib.hid (show Blk x3 w.heap.size 53 (l3.map u32v) ∧ Blk x3 (w.heap.size + 1) 53 z16 ∧ Below w.heap.size w x3 from ⟨hbx, hz3.grown hgx (by simp), below_blk hw3 hgx (Nat.le_refl _)⟩)
      clear hb3 hz3 hw3 hbx hgx HB2
      obtain ⟨l4, h4⟩ : ∃ l4, quarterW l3 3 7 11 15 = l4 := ⟨_, rfl⟩
      obtain ⟨s4, hs⟩ : ∃ s4, (l4.map u32v).toArray = s4 := ⟨_, rfl⟩
      have HL4 := Lib.hid (show l4.length = 16 by rw [← h4, quarterW_length]; exact HL3.out)
      have QC := Lib.hid (refQ_at (l := l3) HL3.out 3 7 11 15 3 7 11 15 rfl rfl rfl rfl (by omega) (by omega) (by omega) (by omega) h4 HS3.out hs)
      have E4 := Lib.hid h4
      have HS4 := Lib.hid hs
      clear h4 hs
      go_wp2_with (refine wpList_load_blk rfl 53 (.tmp 1) rfl w.heap.size rfl 53 (l3.map u32v) HB3.out.1 16 41 Try.underlying53 (cells16 l3 HL3.out) ?_; rw [HS3.out])
      refine (QC.out _).mono ?_
      rintro e w4 ⟨rfl, hq⟩
      have hb4 := HB3.out.1.below hq HB3.out.1.lt
      have hz4 := HB3.out.2.1.below hq HB3.out.2.1.lt
      have hw4 := HB3.out.2.2.trans (hq.mono HB3.out.2.2.size)
      clear hq QC
      go_upto_region 8 with (refine wpList_store_blk rfl 53 (.tmp 1) (.tmp 15) rfl w.heap.size (l4.map u32v) rfl (by rw [HS4.out]; rfl) 53 (l3.map u32v) hb4 (cells16 l4 HL4.out) (by rw [List.length_map, List.length_map, HL4.out, HL3.out]) (u32v_one _) ?_; intro x4 hbx hgx)
      try simp only [Act.put]
      have HB4 := Lib.hid (show Blk x4 w.heap.size 53 (l4.map u32v) ∧ Blk x4 (w.heap.size + 1) 53 z16 ∧ Below w.heap.size w x4 from ⟨hbx, hz4.grown hgx (by simp), below_blk hw4 hgx (Nat.le_refl _)⟩)
      clear hb4 hz4 hw4 hbx hgx HB3
      obtain ⟨l5, h5⟩ : ∃ l5, quarterW l4 0 5 10 15 = l5 := ⟨_, rfl⟩
      obtain ⟨s5, hs⟩ : ∃ s5, (l5.map u32v).toArray = s5 := ⟨_, rfl⟩
      have HL5 := Lib.hid (show l5.length = 16 by rw [← h5, quarterW_length]; exact HL4.out)
      have QC := Lib.hid (refQ_at (l := l4) HL4.out 0 5 10 15 0 5 10 15 rfl rfl rfl rfl (by omega) (by omega) (by omega) (by omega) h5 HS4.out hs)
      have E5 := Lib.hid h5
      have HS5 := Lib.hid hs
      clear h5 hs
      go_wp2_with (refine wpList_load_blk rfl 53 (.tmp 1) rfl w.heap.size rfl 53 (l4.map u32v) HB4.out.1 16 41 Try.underlying53 (cells16 l4 HL4.out) ?_; rw [HS4.out])
      refine (QC.out _).mono ?_
      rintro e w5 ⟨rfl, hq⟩
      have hb5 := HB4.out.1.below hq HB4.out.1.lt
      have hz5 := HB4.out.2.1.below hq HB4.out.2.1.lt
      have hw5 := HB4.out.2.2.trans (hq.mono HB4.out.2.2.size)
      clear hq QC
      go_upto_region 9 with (refine wpList_store_blk rfl 53 (.tmp 1) (.tmp 17) rfl w.heap.size (l5.map u32v) rfl (by rw [HS5.out]; rfl) 53 (l4.map u32v) hb5 (cells16 l5 HL5.out) (by rw [List.length_map, List.length_map, HL5.out, HL4.out]) (u32v_one _) ?_; intro x5 hbx hgx)
      try simp only [Act.put]
      have HB5 := Lib.hid (show Blk x5 w.heap.size 53 (l5.map u32v) ∧ Blk x5 (w.heap.size + 1) 53 z16 ∧ Below w.heap.size w x5 from ⟨hbx, hz5.grown hgx (by simp), below_blk hw5 hgx (Nat.le_refl _)⟩)
      clear hb5 hz5 hw5 hbx hgx HB4
      obtain ⟨l6, h6⟩ : ∃ l6, quarterW l5 1 6 11 12 = l6 := ⟨_, rfl⟩
      obtain ⟨s6, hs⟩ : ∃ s6, (l6.map u32v).toArray = s6 := ⟨_, rfl⟩
      have HL6 := Lib.hid (show l6.length = 16 by rw [← h6, quarterW_length]; exact HL5.out)
      have QC := Lib.hid (refQ_at (l := l5) HL5.out 1 6 11 12 1 6 11 12 rfl rfl rfl rfl (by omega) (by omega) (by omega) (by omega) h6 HS5.out hs)
      have E6 := Lib.hid h6
      have HS6 := Lib.hid hs
      clear h6 hs
      go_wp2_with (refine wpList_load_blk rfl 53 (.tmp 1) rfl w.heap.size rfl 53 (l5.map u32v) HB5.out.1 16 41 Try.underlying53 (cells16 l5 HL5.out) ?_; rw [HS5.out])
      refine (QC.out _).mono ?_
      rintro e w6 ⟨rfl, hq⟩
      have hb6 := HB5.out.1.below hq HB5.out.1.lt
      have hz6 := HB5.out.2.1.below hq HB5.out.2.1.lt
      have hw6 := HB5.out.2.2.trans (hq.mono HB5.out.2.2.size)
      clear hq QC
      go_upto_region 10 with (refine wpList_store_blk rfl 53 (.tmp 1) (.tmp 19) rfl w.heap.size (l6.map u32v) rfl (by rw [HS6.out]; rfl) 53 (l5.map u32v) hb6 (cells16 l6 HL6.out) (by rw [List.length_map, List.length_map, HL6.out, HL5.out]) (u32v_one _) ?_; intro x6 hbx hgx)
      try simp only [Act.put]
      have HB6 := Lib.hid (show Blk x6 w.heap.size 53 (l6.map u32v) ∧ Blk x6 (w.heap.size + 1) 53 z16 ∧ Below w.heap.size w x6 from ⟨hbx, hz6.grown hgx (by simp), below_blk hw6 hgx (Nat.le_refl _)⟩)
      clear hb6 hz6 hw6 hbx hgx HB5
      obtain ⟨l7, h7⟩ : ∃ l7, quarterW l6 2 7 8 13 = l7 := ⟨_, rfl⟩
      obtain ⟨s7, hs⟩ : ∃ s7, (l7.map u32v).toArray = s7 := ⟨_, rfl⟩
      have HL7 := Lib.hid (show l7.length = 16 by rw [← h7, quarterW_length]; exact HL6.out)
      have QC := Lib.hid (refQ_at (l := l6) HL6.out 2 7 8 13 2 7 8 13 rfl rfl rfl rfl (by omega) (by omega) (by omega) (by omega) h7 HS6.out hs)
      have E7 := Lib.hid h7
      have HS7 := Lib.hid hs
      clear h7 hs
      go_wp2_with (refine wpList_load_blk rfl 53 (.tmp 1) rfl w.heap.size rfl 53 (l6.map u32v) HB6.out.1 16 41 Try.underlying53 (cells16 l6 HL6.out) ?_; rw [HS6.out])
      refine (QC.out _).mono ?_
      rintro e w7 ⟨rfl, hq⟩
      have hb7 := HB6.out.1.below hq HB6.out.1.lt
      have hz7 := HB6.out.2.1.below hq HB6.out.2.1.lt
      have hw7 := HB6.out.2.2.trans (hq.mono HB6.out.2.2.size)
      clear hq QC
      go_upto_region 11 with (refine wpList_store_blk rfl 53 (.tmp 1) (.tmp 21) rfl w.heap.size (l7.map u32v) rfl (by rw [HS7.out]; rfl) 53 (l6.map u32v) hb7 (cells16 l7 HL7.out) (by rw [List.length_map, List.length_map, HL7.out, HL6.out]) (u32v_one _) ?_; intro x7 hbx hgx)
      try simp only [Act.put]
      have HB7 := Lib.hid (show Blk x7 w.heap.size 53 (l7.map u32v) ∧ Blk x7 (w.heap.size + 1) 53 z16 ∧ Below w.heap.size w x7 from ⟨hbx, hz7.grown hgx (by simp), below_blk hw7 hgx (Nat.le_refl _)⟩)
      clear hb7 hz7 hw7 hbx hgx HB6
      obtain ⟨l8, h8⟩ : ∃ l8, quarterW l7 3 4 9 14 = l8 := ⟨_, rfl⟩
      obtain ⟨s8, hs⟩ : ∃ s8, (l8.map u32v).toArray = s8 := ⟨_, rfl⟩
      have HL8 := Lib.hid (show l8.length = 16 by rw [← h8, quarterW_length]; exact HL7.out)
      have QC := Lib.hid (refQ_at (l := l7) HL7.out 3 4 9 14 3 4 9 14 rfl rfl rfl rfl (by omega) (by omega) (by omega) (by omega) h8 HS7.out hs)
      have E8 := Lib.hid h8
      have HS8 := Lib.hid hs
      clear h8 hs
      go_wp2_with (refine wpList_load_blk rfl 53 (.tmp 1) rfl w.heap.size rfl 53 (l7.map u32v) HB7.out.1 16 41 Try.underlying53 (cells16 l7 HL7.out) ?_; rw [HS7.out])
      refine (QC.out _).mono ?_
      rintro e w8 ⟨rfl, hq⟩
      have hb8 := HB7.out.1.below hq HB7.out.1.lt
      have hz8 := HB7.out.2.1.below hq HB7.out.2.1.lt
      have hw8 := HB7.out.2.2.trans (hq.mono HB7.out.2.2.size)
      clear hq QC
      go_upto_region 3 with (refine wpList_store_blk rfl 53 (.tmp 1) (.tmp 23) rfl w.heap.size (l8.map u32v) rfl (by rw [HS8.out]; rfl) 53 (l7.map u32v) hb8 (cells16 l8 HL8.out) (by rw [List.length_map, List.length_map, HL8.out, HL7.out]) (u32v_one _) ?_; intro x8 hbx hgx)
      try simp only [Act.put]
      have HB8 := Lib.hid (show Blk x8 w.heap.size 53 (l8.map u32v) ∧ Blk x8 (w.heap.size + 1) 53 z16 ∧ Below w.heap.size w x8 from ⟨hbx, hz8.grown hgx (by simp), below_blk hw8 hgx (Nat.le_refl _)⟩)
      clear hb8 hz8 hw8 hbx hgx HB7
      go_wp2_with fail
      go_roundw
      case rel =>
        refine ⟨j + 1, by omega, by go_num, ?_, HB8.out.2.1, HB8.out.2.2⟩
        have : coreW (j + 1) l = l8 := by rw [← E8.out, ← E7.out, ← E6.out, ← E5.out, ← E4.out, ← E3.out, ← E2.out, ← E1.out, ← E0.out]; rfl
        rw [this]
        exact HB8.out.1
      case measure => simp [intOf]; omega
    · obtain rfl : j = 10 := by omega
      rw [HLZ.out] at hblk
      have HLz := Lib.hid (show lz.length = 16 by rw [← HLZ.out, coreW_length]; exact HL.out)
      have HB := Lib.hid (And.intro hblk (And.intro hz hbel))
      obtain ⟨cz, hcz⟩ : ∃ cz, (lz.map u32v).toArray = cz := ⟨_, rfl⟩
      have HCZ := Lib.hid hcz
      clear hblk hz hbel hcz
      rw [show ((10 : Nat) : Int) = 10 from rfl]
      go_wp2_with (first | (refine wpList_load_blk rfl 53 (.tmp 1) rfl w.heap.size rfl 53 (lz.map u32v) HB.out.1 16 41 Try.underlying53 (cells16 lz HLz.out) ?_; rw [HCZ.out]) | (refine wpList_store_blk rfl 53 (.tmp 2) (.tmp 24) rfl (w.heap.size + 1) (lz.map u32v) rfl (by show Value.agg cz = _; rw [HCZ.out]) 53 z16 HB.out.2.1 (cells16 lz HLz.out) (by rw [List.length_map, HLz.out]; rfl) (u32v_one _) ?_; intro w9 hb9 hg9))
      exact bodyPost_ret (results_blk rfl _ _ (w.heap.size + 1) 53 (lz.map u32v) 16 41 rfl hb9 Try.underlying53 (cells16 lz HLz.out)) rfl ⟨rfl, below_blk HB.out.2.2 hg9 (by omega)⟩
end Go.Proofs.Ytafkedeelngnnaa
