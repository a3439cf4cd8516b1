/-
  The contract of the reference's quarter round.
-/
import Derived.Test.YtagmbogjmlhbmaaChState
import Derived.Test.YtagmbogjmlhbmaaChRef
namespace Go.Proofs.Ytagmbogjmlhbmaa
open Go.RowKit

set_option maxRecDepth 100000 in
set_option maxHeartbeats 8000000 in
theorem refQuarter_any (l : List UInt32) (hl : l.length = 16) (a b c d : Nat) (ha : a < 16) (hb : b < 16) (hc : c < 16) (hd : d < 16) (w : World) :
    Calls Try.prog 16 #[.agg (l.map u32v).toArray, .int .i64 (a : Int), .int .i64 (b : Int), .int .i64 (c : Int), .int .i64 (d : Int)] w fun e w' => e = .returned (.agg ((quarterW l a b c d).map u32v).toArray) ∧ Below w.heap.size w w' := by
  obtain ⟨cl, hcl⟩ : ∃ cl, (l.map u32v).toArray = cl := ⟨_, rfl⟩
  rw [hcl]
  have HB0 := Lib.hid (show Blk (w.alloc (.cells cl 23)) w.heap.size 23 (l.map u32v) by rw [← hcl]; exact Blk.new w _ _)
  obtain ⟨lz, hlz⟩ : ∃ lz, quarterW l a b c d = lz := ⟨_, rfl⟩
  rw [hlz]
  have HLZ := Lib.hid hlz
  have HL := Lib.hid hl
  clear hlz hl
  go_enter Try.func16, Try.ntmps16
  go_upto_region 1 with fail
  have hblk := HB0.out.alloc (.cells z16.toArray 23)
  have hz : Blk ((w.alloc (.cells cl 23)).alloc (.cells z16.toArray 23)) (w.heap.size + 1) 23 z16 := Blk.new' _ (by simp) _ _
  have hbel : Below w.heap.size w ((w.alloc (.cells cl 23)).alloc (.cells z16.toArray 23)) := ((Below.refl _ _).alloc (Nat.le_refl _) _).alloc (by simp) _
  rw [z16_arr] at hblk hz hbel
  clear HB0 hcl
  generalize (w.alloc (.cells cl 23)).alloc (.cells #[.int .u32 0, .int .u32 0, .int .u32 0, .int .u32 0, .int .u32 0, .int .u32 0, .int .u32 0, .int .u32 0, .int .u32 0, .int .u32 0, .int .u32 0, .int .u32 0, .int .u32 0, .int .u32 0, .int .u32 0, .int .u32 0] 23) = W1 at hblk hz hbel ⊢
  go_cut [] (fun wx => Blk wx w.heap.size 23 ((addW l a b).map u32v) ∧ Blk wx (w.heap.size + 1) 23 z16 ∧ Below w.heap.size w wx)
  case first =>
    have fx := hblk.word a (by have := HL.out; omega)
    have fy := hblk.word b (by have := HL.out; omega)
    have zx := hblk.frozen a
    have R := Lib.hid (fun q : Nat => And.intro ((hblk.drewN q).setWord a (wd l a + wd l b)) (And.intro ((hz.drewN q).far (p := ⟨w.heap.size, a, none⟩) (by simp) (.int .u32 ((wd l a + wd l b).toNat : Int))) ((below_drewN hbel q).setCell (p := ⟨w.heap.size, a, none⟩) (Nat.le_refl _) (.int .u32 ((wd l a + wd l b).toNat : Int)))))
    clear hblk hbel hz
    go_region
    simp only [u32_sum]
    go_wp2
    go_meet
    exact ⟨(R.out 0).1, (R.out 0).2.1, below_drewN (R.out 0).2.2 1⟩
  case rest =>
    obtain ⟨hblk, hz, hbel⟩ := hcut
    obtain ⟨l1, hl1⟩ : ∃ l1, addW l a b = l1 := ⟨_, rfl⟩
    rw [hl1] at hblk
    have E1 := Lib.hid hl1
    have HL := Lib.hid (show l1.length = 16 by rw [← hl1, addW_length]; exact HL.out)
    clear hl1
    go_upto_region 2 with fail
    go_cut [] (fun wx => Blk wx w.heap.size 23 ((mixW l1 d a 16).map u32v) ∧ Blk wx (w.heap.size + 1) 23 z16 ∧ Below w.heap.size w wx)
    case first =>
      have fx := hblk.word d (by have := HL.out; omega)
      have fy := hblk.word a (by have := HL.out; omega)
      have zx := hblk.frozen d
      have R := Lib.hid (fun q : Nat => And.intro ((hblk.drewN q).setWord d (rotl (wd l1 d ^^^ wd l1 a) 16)) (And.intro ((hz.drewN q).far (p := ⟨w.heap.size, d, none⟩) (by simp) (.int .u32 ((rotl (wd l1 d ^^^ wd l1 a) 16).toNat : Int))) ((below_drewN hbel q).setCell (p := ⟨w.heap.size, d, none⟩) (Nat.le_refl _) (.int .u32 ((rotl (wd l1 d ^^^ wd l1 a) 16).toNat : Int)))))
      have cx := fun w' : World => refLeft_any (wd l1 d ^^^ wd l1 a) 16 (by omega) (by omega) w'
      simp only [← u32_xor] at cx
      clear hblk hbel hz
      go_region_with ((go_at_call 23; refine (cx _).mono ?_; rintro e wa ⟨rfl, qa, rfl⟩))
      all_goals (go_wp2; go_meet; exact R.out _)
    case rest =>
      obtain ⟨hblk, hz, hbel⟩ := hcut
      obtain ⟨l2, hl2⟩ : ∃ l2, mixW l1 d a 16 = l2 := ⟨_, rfl⟩
      rw [hl2] at hblk
      have E2 := Lib.hid hl2
      have HL := Lib.hid (show l2.length = 16 by rw [← hl2, mixW_length]; exact HL.out)
      clear hl2
      go_upto_region 3 with fail
      go_cut [] (fun wx => Blk wx w.heap.size 23 ((addW l2 c d).map u32v) ∧ Blk wx (w.heap.size + 1) 23 z16 ∧ Below w.heap.size w wx)
      case first =>
        have fx := hblk.word c (by have := HL.out; omega)
        have fy := hblk.word d (by have := HL.out; omega)
        have zx := hblk.frozen c
        have R := Lib.hid (fun q : Nat => And.intro ((hblk.drewN q).setWord c (wd l2 c + wd l2 d)) (And.intro ((hz.drewN q).far (p := ⟨w.heap.size, c, none⟩) (by simp) (.int .u32 ((wd l2 c + wd l2 d).toNat : Int))) ((below_drewN hbel q).setCell (p := ⟨w.heap.size, c, none⟩) (Nat.le_refl _) (.int .u32 ((wd l2 c + wd l2 d).toNat : Int)))))
        clear hblk hbel hz
        go_region
        simp only [u32_sum]
        go_wp2
        go_meet
        exact ⟨(R.out 0).1, (R.out 0).2.1, below_drewN (R.out 0).2.2 1⟩
      case rest =>
        obtain ⟨hblk, hz, hbel⟩ := hcut
        obtain ⟨l3, hl3⟩ : ∃ l3, addW l2 c d = l3 := ⟨_, rfl⟩
        rw [hl3] at hblk
        have E3 := Lib.hid hl3
        have HL := Lib.hid (show l3.length = 16 by rw [← hl3, addW_length]; exact HL.out)
        clear hl3
        go_upto_region 4 with fail
        go_cut [] (fun wx => Blk wx w.heap.size 23 ((mixW l3 b c 12).map u32v) ∧ Blk wx (w.heap.size + 1) 23 z16 ∧ Below w.heap.size w wx)
        case first =>
          have fx := hblk.word b (by have := HL.out; omega)
          have fy := hblk.word c (by have := HL.out; omega)
          have zx := hblk.frozen b
          have R := Lib.hid (fun q : Nat => And.intro ((hblk.drewN q).setWord b (rotl (wd l3 b ^^^ wd l3 c) 12)) (And.intro ((hz.drewN q).far (p := ⟨w.heap.size, b, none⟩) (by simp) (.int .u32 ((rotl (wd l3 b ^^^ wd l3 c) 12).toNat : Int))) ((below_drewN hbel q).setCell (p := ⟨w.heap.size, b, none⟩) (Nat.le_refl _) (.int .u32 ((rotl (wd l3 b ^^^ wd l3 c) 12).toNat : Int)))))
          have cx := fun w' : World => refLeft_any (wd l3 b ^^^ wd l3 c) 12 (by omega) (by omega) w'
          simp only [← u32_xor] at cx
          clear hblk hbel hz
          go_region_with ((go_at_call 23; refine (cx _).mono ?_; rintro e wa ⟨rfl, qa, rfl⟩))
          all_goals (go_wp2; go_meet; exact R.out _)
        case rest =>
          obtain ⟨hblk, hz, hbel⟩ := hcut
          obtain ⟨l4, hl4⟩ : ∃ l4, mixW l3 b c 12 = l4 := ⟨_, rfl⟩
          rw [hl4] at hblk
          have E4 := Lib.hid hl4
          have HL := Lib.hid (show l4.length = 16 by rw [← hl4, mixW_length]; exact HL.out)
          clear hl4
          go_upto_region 5 with fail
          go_cut [] (fun wx => Blk wx w.heap.size 23 ((addW l4 a b).map u32v) ∧ Blk wx (w.heap.size + 1) 23 z16 ∧ Below w.heap.size w wx)
          case first =>
            have fx := hblk.word a (by have := HL.out; omega)
            have fy := hblk.word b (by have := HL.out; omega)
            have zx := hblk.frozen a
            have R := Lib.hid (fun q : Nat => And.intro ((hblk.drewN q).setWord a (wd l4 a + wd l4 b)) (And.intro ((hz.drewN q).far (p := ⟨w.heap.size, a, none⟩) (by simp) (.int .u32 ((wd l4 a + wd l4 b).toNat : Int))) ((below_drewN hbel q).setCell (p := ⟨w.heap.size, a, none⟩) (Nat.le_refl _) (.int .u32 ((wd l4 a + wd l4 b).toNat : Int)))))
            clear hblk hbel hz
            go_region
            simp only [u32_sum]
            go_wp2
            go_meet
            exact ⟨(R.out 0).1, (R.out 0).2.1, below_drewN (R.out 0).2.2 1⟩
          case rest =>
            obtain ⟨hblk, hz, hbel⟩ := hcut
            obtain ⟨l5, hl5⟩ : ∃ l5, addW l4 a b = l5 := ⟨_, rfl⟩
            rw [hl5] at hblk
            have E5 := Lib.hid hl5
            have HL := Lib.hid (show l5.length = 16 by rw [← hl5, addW_length]; exact HL.out)
            clear hl5
            go_upto_region 6 with fail
            go_cut [] (fun wx => Blk wx w.heap.size 23 ((mixW l5 d a 8).map u32v) ∧ Blk wx (w.heap.size + 1) 23 z16 ∧ Below w.heap.size w wx)
            case first =>
              have fx := hblk.word d (by have := HL.out; omega)
              have fy := hblk.word a (by have := HL.out; omega)
              have zx := hblk.frozen d
              have R := Lib.hid (fun q : Nat => And.intro ((hblk.drewN q).setWord d (rotl (wd l5 d ^^^ wd l5 a) 8)) (And.intro ((hz.drewN q).far (p := ⟨w.heap.size, d, none⟩) (by simp) (.int .u32 ((rotl (wd l5 d ^^^ wd l5 a) 8).toNat : Int))) ((below_drewN hbel q).setCell (p := ⟨w.heap.size, d, none⟩) (Nat.le_refl _) (.int .u32 ((rotl (wd l5 d ^^^ wd l5 a) 8).toNat : Int)))))
              have cx := fun w' : World => refLeft_any (wd l5 d ^^^ wd l5 a) 8 (by omega) (by omega) w'
              simp only [← u32_xor] at cx
              clear hblk hbel hz
              go_region_with ((go_at_call 23; refine (cx _).mono ?_; rintro e wa ⟨rfl, qa, rfl⟩))
              all_goals (go_wp2; go_meet; exact R.out _)
            case rest =>
              obtain ⟨hblk, hz, hbel⟩ := hcut
              obtain ⟨l6, hl6⟩ : ∃ l6, mixW l5 d a 8 = l6 := ⟨_, rfl⟩
              rw [hl6] at hblk
              have E6 := Lib.hid hl6
              have HL := Lib.hid (show l6.length = 16 by rw [← hl6, mixW_length]; exact HL.out)
              clear hl6
              go_upto_region 7 with fail
              go_cut [] (fun wx => Blk wx w.heap.size 23 ((addW l6 c d).map u32v) ∧ Blk wx (w.heap.size + 1) 23 z16 ∧ Below w.heap.size w wx)
              case first =>
                have fx := hblk.word c (by have := HL.out; omega)
                have fy := hblk.word d (by have := HL.out; omega)
                have zx := hblk.frozen c
                have R := Lib.hid (fun q : Nat => And.intro ((hblk.drewN q).setWord c (wd l6 c + wd l6 d)) (And.intro ((hz.drewN q).far (p := ⟨w.heap.size, c, none⟩) (by simp) (.int .u32 ((wd l6 c + wd l6 d).toNat : Int))) ((below_drewN hbel q).setCell (p := ⟨w.heap.size, c, none⟩) (Nat.le_refl _) (.int .u32 ((wd l6 c + wd l6 d).toNat : Int)))))
                clear hblk hbel hz
                go_region
                simp only [u32_sum]
                go_wp2
                go_meet
                exact ⟨(R.out 0).1, (R.out 0).2.1, below_drewN (R.out 0).2.2 1⟩
              case rest =>
                obtain ⟨hblk, hz, hbel⟩ := hcut
                obtain ⟨l7, hl7⟩ : ∃ l7, addW l6 c d = l7 := ⟨_, rfl⟩
                rw [hl7] at hblk
                have E7 := Lib.hid hl7
                have HL := Lib.hid (show l7.length = 16 by rw [← hl7, addW_length]; exact HL.out)
                clear hl7
                go_upto_region 8 with fail
                go_cut [] (fun wx => Blk wx w.heap.size 23 ((mixW l7 b c 7).map u32v) ∧ Blk wx (w.heap.size + 1) 23 z16 ∧ Below w.heap.size w wx)
                case first =>
                  have fx := hblk.word b (by have := HL.out; omega)
                  have fy := hblk.word c (by have := HL.out; omega)
                  have zx := hblk.frozen b
                  have R := Lib.hid (fun q : Nat => And.intro ((hblk.drewN q).setWord b (rotl (wd l7 b ^^^ wd l7 c) 7)) (And.intro ((hz.drewN q).far (p := ⟨w.heap.size, b, none⟩) (by simp) (.int .u32 ((rotl (wd l7 b ^^^ wd l7 c) 7).toNat : Int))) ((below_drewN hbel q).setCell (p := ⟨w.heap.size, b, none⟩) (Nat.le_refl _) (.int .u32 ((rotl (wd l7 b ^^^ wd l7 c) 7).toNat : Int)))))
                  have cx := fun w' : World => refLeft_any (wd l7 b ^^^ wd l7 c) 7 (by omega) (by omega) w'
                  simp only [← u32_xor] at cx
                  clear hblk hbel hz
                  go_region_with ((go_at_call 23; refine (cx _).mono ?_; rintro e wa ⟨rfl, qa, rfl⟩))
                  all_goals (go_wp2; go_meet; exact R.out _)
                case rest =>
                  obtain ⟨hblk, hz, hbel⟩ := hcut
                  obtain ⟨l8, hl8⟩ : ∃ l8, mixW l7 b c 7 = l8 := ⟨_, rfl⟩
                  rw [hl8] at hblk
                  have E8 := Lib.hid hl8
                  have HL := Lib.hid (show l8.length = 16 by rw [← hl8, mixW_length]; exact HL.out)
                  clear hl8
                  have HZ : l8 = lz := by rw [← E8.out, ← E7.out, ← E6.out, ← E5.out, ← E4.out, ← E3.out, ← E2.out, ← E1.out]; exact HLZ.out
                  subst HZ
                  have HB := Lib.hid (And.intro hblk (And.intro hz hbel))
                  obtain ⟨cz, hcz⟩ : ∃ cz, (l8.map u32v).toArray = cz := ⟨_, rfl⟩
                  have HCZ := Lib.hid hcz
                  clear hblk hz hbel hcz
                  go_upto_region 9 with fail
                  go_wp2_with (first | (refine wpList_load_blk rfl 23 (.tmp 5) rfl w.heap.size rfl 23 (l8.map u32v) HB.out.1 16 22 Try.underlying23 (cells16 l8 HL.out) ?_; rw [HCZ.out]) | (refine wpList_store_blk rfl 23 (.tmp 10) (.tmp 83) rfl (w.heap.size + 1) (l8.map u32v) rfl (by show Value.agg cz = _; rw [HCZ.out]) 23 z16 HB.out.2.1 (cells16 l8 HL.out) (by rw [List.length_map, HL.out]; rfl) (u32v_one _) ?_; intro w9 hb9 hg9))
                  exact bodyPost_ret (results_blk rfl _ _ (w.heap.size + 1) 23 (l8.map u32v) 16 22 rfl hb9 Try.underlying23 (cells16 l8 HL.out)) rfl ⟨rfl, below_blk HB.out.2.2 hg9 (by omega)⟩
end Go.Proofs.Ytagmbogjmlhbmaa
