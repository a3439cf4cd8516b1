/-
  The contract of codec.Text: the key in base64. The contract of config's peerLines. The contract of config's Format. What the reference's Format builds, piece by piece. Mathematics only. Plain mathematics of a key's bits: the six bits of a place of the text, one by one, and the bytes that the characters' bits make. The contract of the reference's Text. The contract of the reference's Format of configurations. The contract of an address that the statements are made of: Host. The sanity check of layer 13 holds, over what is asked of FormatPrefix and ParsePrefix. A slice built of arrays of one size, in a region that draws its order. The walk of ConfigValidates. No statement is proved here.
-/
import Derived.Deep.RegionLaw
import Derived.RegionTactic
import Derived.BigRegion
import Derived.BigQuiet
import Derived.Deep.QuietTactic
import Derived.Laws.CopyOwn
import Derived.Maps.AppendAt
import Derived.Outline
import Derived.Deep.DeepCutAuto
import Derived.Laws.BitsAllLaws
import Derived.Lib.SmallJoins
import Derived.Lib.Strings
import Derived.Test.YtcbfchkhbngpkaaGreatDoorConfigReturnsB10
namespace Go.Proofs.YtcbfchkhbngpkaaGreatDoor
open Go.RowKit

set_option maxRecDepth 100000 in
set_option maxHeartbeats 1000000 in
theorem text_any (k : List UInt8) (hk : k.length = 32) (ck : Array Value) (hck : ck = (k.map u8v).toArray) (w : World) :
    Calls Tryz.prog 23 #[.agg ck] w fun e w' => e = .returned (.string ⟨(textL k).toArray⟩) ∧ Below w.heap.size w w' := by
  have hbk : Blk (w.alloc (.cells ck 24)) w.heap.size 24 (k.map u8v) := by rw [hck]; exact Blk.new w _ _
  have HB := Lib.hid hbk
  have HK := Lib.hid hk
  clear hbk hck hk
  obtain ⟨i0, hi, hz0, hz1, hz2⟩ := info_parts Tryz.info5
  go_enter Tryz.func23, Tryz.ntmps23
  go_wp2_with fail
  generalize hW : (w.alloc (.cells ck 24)).alloc _ = W
  have hb1 : Blk W w.heap.size 24 (k.map u8v) := by rw [← hW]; exact HB.out.alloc _
  have hb2 : Blk W (w.heap.size + 1) 89 (List.replicate 33 (.int .u8 0)) := by
    rw [← hW]
    have := Blk.new (w.alloc (.cells ck 24)) 89 (List.replicate 33 (.int .u8 0))
    rw [World.size_alloc] at this
    exact this
  have hbw : Below w.heap.size w W := by
    rw [← hW]
    exact ((Below.refl _ _).alloc (Nat.le_refl _) _).alloc (by simp) _
  have hsz : w.heap.size + 2 ≤ W.heap.size := by rw [← hW]; simp
  have hs1 : (k.map u8v).length = Nat.min 32 33 := by simp [HK.out]
  have hs2 : ∀ j v, (k.map u8v)[j]? = some v → W.cell? ((⟨w.heap.size, 0, none⟩ : Addr).add j) = some v := by
    intro j v hj
    rw [Go.WideShapes.add_plain, Nat.zero_add, hb1.cell, hj]
  have hs3 : 0 + (k.map u8v).length ≤ (List.replicate 33 (Value.int .u8 0)).length := by simp [HK.out]
  have hs4 : ∀ v ∈ k.map u8v, v.oneCell' = true := u8v_one k
  have H1 := Lib.hid hs1
  have H2 := Lib.hid hs2
  have H3 := Lib.hid hs3
  have H4 := Lib.hid hs4
  clear hs1 hs2 hs3 hs4 hb1 hW
  go_region_law (refine step_copy_bytes _ rfl (.tmp 8) (.tmp 9) 22 22 rfl 5 Tryz.underlying22 (by kernel_rfl) (w.heap.size + 1) 0 33 33 ⟨w.heap.size, 0, none⟩ 32 32 (by simp [Act.eval, Act.put]) (by simp [Act.eval, Act.put]) _ _ hb2.drew (k.map u8v) H1.out H2.out H3.out H4.out ?_; intro w2 hb3 hg3)
  have hb4 : Blk w2 (w.heap.size + 1) 89 ((k ++ [0]).map u8v) := by
    have h := hb3
    simp only [List.take_zero, List.nil_append, Nat.zero_add, List.length_map, HK.out, List.drop_replicate, Nat.reduceSub] at h
    rw [List.map_append]
    exact h
  have hbw2 : Below w.heap.size w w2 := (hbw.drew).grown hg3 (by simp; omega) (by intro q hq; injection hq with hq; omega)
  have hsz2 : w.heap.size + 2 ≤ w2.heap.size := Nat.le_trans hsz hg3.size
  clear hb3 hg3 hb2 hbw hsz H1 H2 H3 H4
  clear HB
  go_wp2_with (refine wpList_make_own _ rfl (.const (.int .i64 0)) (.const (.int .i64 44)) 22 rfl (w.heap.size + 2) 5 i0 (.int .u8 0) 1 Tryz.underlying22 hi hz0 hz1 .i64 .i64 44 44 rfl rfl rfl (by rw [hz2]; omega) (by unfold maxLen; omega) hsz2 ?_; intro w3 hown3 hg4)
  go_loopw [4, 12] (fun v i wr => ∃ g : Nat, g ≤ 11 ∧ i = .int .i64 g ∧ wr.ownsRow (w.heap.size + 2) 5 1 v (4 * g) ((chrs k (4 * g)).map u8v) ∧ Below (w.heap.size + 2) w2 wr) (fun _ i _ => 11 - (intOf i).toNat)
  case atStart => exact ⟨0, by omega, rfl, hown3, (Below.refl _ _).grown hg4 hsz2 (by simp)⟩
  case round =>
    obtain ⟨g, hg, rfl, hown, hb⟩ := hrel
    by_cases hlt : g < 11
    · have hrd := (hb4.below hb (by omega)).rd (g * 3) 3 (by simp [HK.out]; omega)
      have hN24 : numB (((k ++ [0]).drop (g * 3)).take 3) < 16777216 := by
        have := numL_lt (((k ++ [0]).drop (g * 3)).take 3).reverse
        rw [List.length_reverse, hrd.1] at this
        exact this
      generalize hN : numB (((k ++ [0]).drop (g * 3)).take 3) = N at hN24
      have HN := Lib.hid hN
      clear hN
      have HRd := Lib.hid hrd
      clear hrd
      have hsl := run_slice_array (P := Tryz.prog) wr 89 5 33 Tryz.underlying89 i0 hi hz1 (w.heap.size + 1) .i64 .i64 (g * 3) ((g + 1) * 3) ((g : Int) * 3) (((g : Int) + 1) * 3) (by omega) (by omega) (by omega) (by omega) (by omega)
      rw [show (g + 1) * 3 - g * 3 = 3 from by omega] at hsl
      go_wp2_with fail
      refine (readBig_any _ _ 3 _ _ (by omega) _ HRd.out).mono ?_
      rintro e w4 ⟨rfl, rfl⟩
      rw [HN.out, Nat.mod_eq_of_lt (by omega)]
      go_wp2
      go_loopw [4, 22] (fun v c wx => ∃ c' : Nat, c' ≤ 4 ∧ c = .int .i64 c' ∧ wx.ownsRow (w.heap.size + 2) 5 1 v (4 * g + c') ((chrs k (4 * g + c')).map u8v) ∧ Below (w.heap.size + 2) w2 wx) (fun _ c _ => 4 - (intOf c).toNat)
      case atStart => exact ⟨0, by omega, rfl, hown, hb⟩
      case round =>
        clear hown hb
        obtain ⟨c, hc, rfl, hown, hb⟩ := hrel
        by_cases hlc : c < 4
        · obtain rfl | rfl | rfl | rfl : c = 0 ∨ c = 1 ∨ c = 2 ∨ c = 3 := by omega
          · have ha : bits BinOp.and IntKind.u64 ((N : Int) / 262144) 63 = ((N / 262144 % 64 : Nat) : Int) := by
              have := u64_and_nat (N / 262144) 63 (by omega) (by omega)
              rw [nat_mask6] at this
              exact this
            have d1 : (0 : Int) ≤ (N : Int) / 262144 % 64 := by omega
            have d2 : (N : Int) / 262144 % 64 < 64 := by omega
            have hI1 : ∀ h, (ByteArray.mk #[65, 66, 67, 68, 69, 70, 71, 72, 73, 74, 75, 76, 77, 78, 79, 80, 81, 82, 83, 84, 85, 86, 87, 88, 89, 90, 97, 98, 99, 100, 101, 102, 103, 104, 105, 106, 107, 108, 109, 110, 111, 112, 113, 114, 115, 116, 117, 118, 119, 120, 121, 122, 48, 49, 50, 51, 52, 53, 54, 55, 56, 57, 43, 47])[((N : Int) / 262144 % 64).toNat]'h = b64D (N / 262144 % 64) := fun h => b64Idx _ (by omega) h
            have hsx : sext (k ++ [0]) (4 * g) = N / 262144 % 64 := by
              unfold sext
              rw [show 4 * g / 4 * 3 = g * 3 from by omega, show 4 * g % 4 = 0 from by omega, HN.out] <;> simp
            have HS := Lib.hid hsx
            clear hsx
            have hsz := hb.size
            go_wp2_with (at_builtin; refine wpList_append_bytes _ rfl (.tmp 25) (.tmp 33) 22 rfl (w.heap.size + 2) 5 i0 (.int .u8 0) Tryz.underlying22 hi hz0 hz1 hz2 rfl u4 (4 * g) _ rfl (hown.alloc _) ⟨wr.heap.size, 0, none⟩ 1 1 [.int .u8 (b64D (N / 262144 % 64)).toNat] rfl rfl (cell_one_new _ _ _) (one_u8 _) (by omega) (by simp; omega) ?_; intro v' w' hown' hg')
            have HO := Lib.hid hown'
            clear hown'
            go_roundw
            case rel =>
              refine ⟨1, by omega, by go_num, ?_, (hb.alloc (by omega) _).grown hg' (by simp; omega) (own_from hown)⟩
              have h := HO.out
              rw [show 4 * g + 1 = (4 * g) + 1 from by omega, chrs_succ, HS.out, List.map_append]
              exact h
            case measure => simp [intOf]
          · have ha : bits BinOp.and IntKind.u64 ((N : Int) / 4096) 63 = ((N / 4096 % 64 : Nat) : Int) := by
              have := u64_and_nat (N / 4096) 63 (by omega) (by omega)
              rw [nat_mask6] at this
              exact this
            have d1 : (0 : Int) ≤ (N : Int) / 4096 % 64 := by omega
            have d2 : (N : Int) / 4096 % 64 < 64 := by omega
            have hI1 : ∀ h, (ByteArray.mk #[65, 66, 67, 68, 69, 70, 71, 72, 73, 74, 75, 76, 77, 78, 79, 80, 81, 82, 83, 84, 85, 86, 87, 88, 89, 90, 97, 98, 99, 100, 101, 102, 103, 104, 105, 106, 107, 108, 109, 110, 111, 112, 113, 114, 115, 116, 117, 118, 119, 120, 121, 122, 48, 49, 50, 51, 52, 53, 54, 55, 56, 57, 43, 47])[((N : Int) / 4096 % 64).toNat]'h = b64D (N / 4096 % 64) := fun h => b64Idx _ (by omega) h
            have hsx : sext (k ++ [0]) (4 * g + 1) = N / 4096 % 64 := by
              unfold sext
              rw [show (4 * g + 1) / 4 * 3 = g * 3 from by omega, show (4 * g + 1) % 4 = 1 from by omega, HN.out] <;> simp
            have HS := Lib.hid hsx
            clear hsx
            have hsz := hb.size
            go_wp2_with (at_builtin; refine wpList_append_bytes _ rfl (.tmp 25) (.tmp 33) 22 rfl (w.heap.size + 2) 5 i0 (.int .u8 0) Tryz.underlying22 hi hz0 hz1 hz2 rfl u4 (4 * g + 1) _ rfl (hown.alloc _) ⟨wr.heap.size, 0, none⟩ 1 1 [.int .u8 (b64D (N / 4096 % 64)).toNat] rfl rfl (cell_one_new _ _ _) (one_u8 _) (by omega) (by simp; omega) ?_; intro v' w' hown' hg')
            have HO := Lib.hid hown'
            clear hown'
            go_roundw
            case rel =>
              refine ⟨2, by omega, by go_num, ?_, (hb.alloc (by omega) _).grown hg' (by simp; omega) (own_from hown)⟩
              have h := HO.out
              rw [show 4 * g + 2 = (4 * g + 1) + 1 from by omega, chrs_succ, HS.out, List.map_append]
              exact h
            case measure => simp [intOf]
          · have ha : bits BinOp.and IntKind.u64 ((N : Int) / 64) 63 = ((N / 64 % 64 : Nat) : Int) := by
              have := u64_and_nat (N / 64) 63 (by omega) (by omega)
              rw [nat_mask6] at this
              exact this
            have d1 : (0 : Int) ≤ (N : Int) / 64 % 64 := by omega
            have d2 : (N : Int) / 64 % 64 < 64 := by omega
            have hI1 : ∀ h, (ByteArray.mk #[65, 66, 67, 68, 69, 70, 71, 72, 73, 74, 75, 76, 77, 78, 79, 80, 81, 82, 83, 84, 85, 86, 87, 88, 89, 90, 97, 98, 99, 100, 101, 102, 103, 104, 105, 106, 107, 108, 109, 110, 111, 112, 113, 114, 115, 116, 117, 118, 119, 120, 121, 122, 48, 49, 50, 51, 52, 53, 54, 55, 56, 57, 43, 47])[((N : Int) / 64 % 64).toNat]'h = b64D (N / 64 % 64) := fun h => b64Idx _ (by omega) h
            have hsx : sext (k ++ [0]) (4 * g + 2) = N / 64 % 64 := by
              unfold sext
              rw [show (4 * g + 2) / 4 * 3 = g * 3 from by omega, show (4 * g + 2) % 4 = 2 from by omega, HN.out] <;> simp
            have HS := Lib.hid hsx
            clear hsx
            have hsz := hb.size
            go_wp2_with (at_builtin; refine wpList_append_bytes _ rfl (.tmp 25) (.tmp 33) 22 rfl (w.heap.size + 2) 5 i0 (.int .u8 0) Tryz.underlying22 hi hz0 hz1 hz2 rfl u4 (4 * g + 2) _ rfl (hown.alloc _) ⟨wr.heap.size, 0, none⟩ 1 1 [.int .u8 (b64D (N / 64 % 64)).toNat] rfl rfl (cell_one_new _ _ _) (one_u8 _) (by omega) (by simp; omega) ?_; intro v' w' hown' hg')
            have HO := Lib.hid hown'
            clear hown'
            go_roundw
            case rel =>
              refine ⟨3, by omega, by go_num, ?_, (hb.alloc (by omega) _).grown hg' (by simp; omega) (own_from hown)⟩
              have h := HO.out
              rw [show 4 * g + 3 = (4 * g + 2) + 1 from by omega, chrs_succ, HS.out, List.map_append]
              exact h
            case measure => simp [intOf]
          · have ha : bits BinOp.and IntKind.u64 ((N : Int)) 63 = ((N % 64 : Nat) : Int) := by
              have := u64_and_nat (N) 63 (by omega) (by omega)
              rw [nat_mask6] at this
              exact this
            have d1 : (0 : Int) ≤ (N : Int) % 64 := by omega
            have d2 : (N : Int) % 64 < 64 := by omega
            have hI1 : ∀ h, (ByteArray.mk #[65, 66, 67, 68, 69, 70, 71, 72, 73, 74, 75, 76, 77, 78, 79, 80, 81, 82, 83, 84, 85, 86, 87, 88, 89, 90, 97, 98, 99, 100, 101, 102, 103, 104, 105, 106, 107, 108, 109, 110, 111, 112, 113, 114, 115, 116, 117, 118, 119, 120, 121, 122, 48, 49, 50, 51, 52, 53, 54, 55, 56, 57, 43, 47])[((N : Int) % 64).toNat]'h = b64D (N % 64) := fun h => b64Idx _ (by omega) h
            have hsx : sext (k ++ [0]) (4 * g + 3) = N % 64 := by
              unfold sext
              rw [show (4 * g + 3) / 4 * 3 = g * 3 from by omega, show (4 * g + 3) % 4 = 3 from by omega, HN.out] <;> simp
            have HS := Lib.hid hsx
            clear hsx
            have hsz := hb.size
            go_wp2_with (at_builtin; refine wpList_append_bytes _ rfl (.tmp 25) (.tmp 33) 22 rfl (w.heap.size + 2) 5 i0 (.int .u8 0) Tryz.underlying22 hi hz0 hz1 hz2 rfl u4 (4 * g + 3) _ rfl (hown.alloc _) ⟨wr.heap.size, 0, none⟩ 1 1 [.int .u8 (b64D (N % 64)).toNat] rfl rfl (cell_one_new _ _ _) (one_u8 _) (by omega) (by simp; omega) ?_; intro v' w' hown' hg')
            have HO := Lib.hid hown'
            clear hown'
            go_roundw
            case rel =>
              refine ⟨4, by omega, by go_num, ?_, (hb.alloc (by omega) _).grown hg' (by simp; omega) (own_from hown)⟩
              have h := HO.out
              rw [show 4 * g + 4 = (4 * g + 3) + 1 from by omega, chrs_succ, HS.out, List.map_append]
              exact h
            case measure => simp [intOf]
        · obtain rfl : c = 4 := by omega
          go_wp2
          go_roundw
          case rel =>
            refine ⟨g + 1, by omega, by go_num, ?_, hb⟩
            rw [show 4 * (g + 1) = 4 * g + 4 from by omega]
            exact hown
          case measure => simp [intOf]; omega
    · obtain rfl : g = 11 := by omega
      obtain ⟨gt, ct, rfl, hgt1, hgt2⟩ := hown.form (by omega)
      have hfz := hown.frozenAt 43
      have hcl : ∃ u, wr.cell? ⟨gt, 43, none⟩ = some u := by
        rw [hown.cellAt 43 (by omega)]
        exact ⟨_, List.getElem?_eq_getElem (by rw [hown.1]; omega)⟩
      obtain ⟨u, hcl⟩ := hcl
      have hst := (hown.stored 43 (u8v 61)).1
      have hbt := (hown.stored 43 (u8v 61)).2
      rw [← List.map_set, chrs_set] at hst
      have hcv : (convert 22 9 (.slice (some ⟨gt, 0, none⟩) 44 ct)).run Tryz.prog (wr.setCell ⟨gt, 43, none⟩ (.int .u8 61)) = .ok (.string ⟨(textL k).toArray⟩) (wr.setCell ⟨gt, 43, none⟩ (.int .u8 61)) := run_string_of_rd (P := Tryz.prog) 22 9 5 ct Tryz.underlying22 Tryz.underlying5 Tryz.underlying9 (Rd.of_own hst)
      have hbe : Below w.heap.size w (wr.setCell ⟨gt, 43, none⟩ (.int .u8 61)) := (hbw2.trans (hb.mono (by omega))).grown hbt (by have := hb.size; omega) (by intro q hq; injection hq with hq; omega)
      have HBE := Lib.hid hbe
      clear hbe hbt hst
      go_wp2
      go_ret
      exact ⟨rfl, HBE.out⟩
end Go.Proofs.YtcbfchkhbngpkaaGreatDoor
namespace Go.Proofs.YtcbfchkhbngpkaaGreatDoor
open Go.RowKit

/-- the lines that were made -/
structure LnAt (w : World) (g : Nat) (cs : List Value) (ls : List (List UInt8)) (vt : Value) (W : World) : Prop where
  hd : HeapD w.heap.size [ownD w.heap.size 9 1 vt ls.length (ls.map strV), blkD g 57 cs] W
  bel : Below w.heap.size w W
theorem LnAt.below {w W W' : World} {g : Nat} {cs : List Value} {ls : List (List UInt8)} {vt : Value} (h : LnAt w g cs ls vt W) (hb : Below W.heap.size W W') : LnAt w g cs ls vt W' := ⟨h.hd.below hb, h.bel.trans (hb.mono h.bel.size)⟩
theorem LnAt.blk {w W : World} {g : Nat} {cs : List Value} {ls : List (List UInt8)} {vt : Value} (h : LnAt w g cs ls vt W) : Blk W g 57 cs := h.hd.blk 1 rfl
theorem LnAt.grow {w W W' : World} {g : Nat} {cs : List Value} {ls : List (List UInt8)} {vt v' : Value} (h : LnAt w g cs ls vt W) (t : List UInt8) (ho : W'.ownsRow w.heap.size 9 1 v' (ls.length + 1) (ls.map strV ++ [.string ⟨t.toArray⟩])) (hg : W.grownBy W' vt.ownBlock) (hv : v'.ownBlock = vt.ownBlock ∨ v'.ownBlock = some W.heap.size) : LnAt w g cs (ls ++ [t]) v' W' :=
  ⟨HeapD.grow (F := [blkD g 57 cs]) h.hd h.bel.size (by rw [List.length_append, List.length_singleton, List.map_append]; exact ho) hg hv, h.bel.grown hg h.bel.size (fun k e => (own_lt (h.hd.own 0 rfl) e).1)⟩
theorem HeapD.lit {base : Nat} {E : List Dep} {W : World} (h : HeapD base E W) (e : TypeId) (size : Nat) (cs : Array Value) (n : Nat) (hb : base ≤ W.heap.size) (hm : n ≤ maxLen) (hs : cs.size = n * size) : HeapD base (ownD base e size (.slice (some ⟨W.heap.size, 0, none⟩) n n) n cs.toList :: E) (W.alloc (.cells cs e)) :=
  h.made hb ((Below.refl W.heap.size W).alloc (Nat.le_refl _) _) (ownD base e size (.slice (some ⟨W.heap.size, 0, none⟩) n n) n cs.toList) (fun k hk => by
    have h2 : k = W.heap.size := by simpa [ownD, Value.ownBlock, eq_comm] using hk
    subst h2
    simp) (by simp [ownD, Value.ownBlock]) (World.ownsRow_lit W cs n hb hm hs)
theorem endT_le (a : AddrM) (port : Int) (h : port ≤ 65535) : (endT a port).length ≤ 60 := by
  have h1 := addrT_len a
  rw [endT]
  split
  · simp
  · have h2 := decT_len port.toNat 5 (by omega) (by omega)
    split
    · simp only [List.length_append, List.length_cons, List.length_nil]; omega
    · simp only [List.length_append, List.length_cons]; omega
theorem psT_le (al : List (AddrM × Int)) (hn : al.length ≤ 16) (hb : ∀ q ∈ al, q.2 ≤ 9223372036854775807) : (psT al).length ≤ 10000 := by
  have hj : ∀ ys : List (List UInt8), (∀ x ∈ ys, x.length ≤ 100) → (Lib.join ys [44, 32]).length ≤ 102 * ys.length := by
    intro ys
    induction ys with
    | nil => intro _; simp [Lib.join]
    | cons a r ih =>
      intro h2
      have ha := h2 a (List.mem_cons_self ..)
      have hr := ih fun x hx => h2 x (List.mem_cons_of_mem _ hx)
      cases r with
      | nil => simp [Lib.join]; omega
      | cons b r =>
        unfold Lib.join at hr ⊢
        rw [List.intercalate_cons_cons]
        simp only [List.length_append, List.length_cons, List.length_nil] at hr ⊢
        omega
  have := hj (al.map fun q => prefT q.1 q.2) (fun x hx => by
    obtain ⟨q, hq, rfl⟩ := List.mem_map.1 hx
    exact prefT_le _ _ (hb q hq))
  rw [List.length_map] at this
  rw [psT]
  omega
theorem formatInt_c (n : Int) (h0 : 0 ≤ n) (h1 : n ≤ 9223372036854775807) (w : World) (hlv : LvCf w) :
    Calls Tryz.prog 50 #[.int .i64 n, .int .i64 10] w fun e w' => e = .returned (.string ⟨(decT n.toNat).toArray⟩) ∧ Below w.heap.size w w' := by
  refine (sh_strconv_FormatInt_10 n (by omega) h1 w hlv.1).mono ?_
  rintro e w' ⟨rfl, k, os, rfl⟩
  rw [itoa_lib n h0]
  exact ⟨rfl, ⟨rfl, rfl, rfl, by simp [Go.Sort.grow], fun j hj => by simp [Go.Sort.grow, Array.getElem?_append_left hj]⟩⟩
theorem rightE_port {p : PeerM} (h : rightP p = true) (hb : p.hasE = true) : p.ep ≤ 65535 := by
  simp only [rightP, Bool.and_eq_true] at h
  have h1 := h.1.1
  rw [rightE, if_pos hb] at h1
  by_cases hc : p.ep ≤ 65535
  · exact hc
  · rw [endT, if_pos (.inr (.inr (by omega)))] at h1
    simp at h1
theorem rightK_le {p : PeerM} (h : rightP p = true) : 0 ≤ p.keep ∧ p.keep ≤ 1073741824 := by
  simp only [rightP, rightK, Bool.and_eq_true, Bool.or_eq_true, beq_iff_eq, decide_eq_true_eq] at h
  rcases h.1.2 with h | h
  · omega
  · omega
theorem str_one (t : List UInt8) : ∀ u ∈ [[Value.string ⟨t.toArray⟩]].flatten, u.oneCell' = true := by
  intro u hu
  have h2 : u = .string ⟨t.toArray⟩ := by simpa using hu
  subst h2
  rfl
theorem textL_len (k : List UInt8) (_h : k.length = 32) : (textL k).length ≤ 100 := by
  rw [textL_length]; omega
theorem peer_pubA {w : World} {g off : Nat} {p : PeerM} {v : Value} (h : At w g off (p.cells v)) : At w g off (p.pub.map u8v) := fun j u hj => h j u (by rw [PeerM.cells, List.getElem?_append_left (List.getElem?_eq_some_iff.1 hj).1]; exact hj)
theorem peer_sha {w : World} {g off : Nat} {p : PeerM} {v : Value} (h : At w g off (p.cells v)) (hp : p.ok) : At w g (off + 32) (p.sha.map u8v) := fun j u hj => by
  rw [Nat.add_assoc]
  refine h (32 + j) u ?_
  rw [PeerM.cells, List.getElem?_append_right (by rw [List.length_map, hp.1]; omega), List.length_map, hp.1, show 32 + j - 32 = j by omega, List.getElem?_append_left (List.getElem?_eq_some_iff.1 hj).1]
  exact hj
set_option maxRecDepth 100000 in
set_option maxHeartbeats 8000000 in
theorem peerLines_any (p : PeerM) (hp : p.ok) (hr : rightP p = true) (hal : p.al.length ≤ 16) (A : Option Addr) (c : Nat) (w : World) (hlv : LvCf w) (hpf : PfRd w w.heap.size A p.al.length p.al) :
    Calls Tryz.prog 25 #[.agg (p.cells (.slice A p.al.length c)).toArray] w fun e w' => ∃ v', e = .returned v' ∧ w'.ownsRow w.heap.size 9 1 v' (peerT p).length ((peerT p).map strV) ∧ Below w.heap.size w w' := by
  obtain ⟨i0, hti, hz0, hz1, hz2⟩ := info_parts (P := Tryz.prog) (e := 9) (z := .string ⟨#[]⟩) (size := 1) (bytes := 16) (by kernel_rfl)
  have HTI := Lib.hid (And.intro hti (And.intro hz0 (And.intro hz1 hz2)))
  have HP := Lib.hid (And.intro hp (And.intro hr hal))
  have HLV := Lib.hid hlv
  have HPF := Lib.hid hpf
  obtain ⟨cs, hcs⟩ : ∃ z, p.cells (.slice A p.al.length c) = z := ⟨_, rfl⟩
  have HCS := Lib.hid hcs
  rw [hcs]
  obtain ⟨ca, hca⟩ : ∃ z, cs.toArray = z := ⟨_, rfl⟩
  rw [hca]
  have hl0 : LnAt w w.heap.size cs [] (.slice none 0 0) (w.alloc (.cells ca 57)) := ⟨((HeapD.nil w.heap.size w).alloc (Nat.le_refl _) 57 ca cs hca.symm).made (by simp) (Below.refl _ _) (ownD w.heap.size 9 1 (.slice none 0 0) 0 []) (by simp [ownD, Value.ownBlock]) (by simp [ownD, Value.ownBlock]) (World.ownsRow_nil _ _ _ _), (Below.refl _ _).alloc (Nat.le_refl _) _⟩
  have HL0 := Lib.hid hl0
  obtain ⟨pc, hpc⟩ : ∃ z, (p.pub.map u8v).toArray = z := ⟨_, rfl⟩
  have HPC := Lib.hid hpc
  have HTX := Lib.hid (fun W => text_any p.pub hp.1 pc hpc.symm W)
  clear hti hz0 hz1 hz2 hp hr hal hlv hpf hcs hca hl0 hpc
  go_enter Tryz.func25, Tryz.ntmps25
  go_upto_region 1 with fail
  generalize w.alloc (.cells ca 57) = w1 at HL0 ⊢
  obtain ⟨g, hg⟩ : ∃ g, w.heap.size = g := ⟨_, rfl⟩
  have HG := Lib.hid hg
  rw [show LnAt w w.heap.size cs [] (.slice none 0 0) w1 = LnAt w g cs [] (.slice none 0 0) w1 from by rw [hg]] at HL0
  rw [hg]
  clear hg
  have HAT := Lib.hid (fun (W : World) (h : Blk W g 57 cs) => (show At W g 0 (p.cells (.slice A p.al.length c)) from by rw [HCS.out]; exact h.all))
  go_upto_region 2 with ((with_reducible refine at_op (.load 24 (.tmp 4)) rfl ?_); refine wpList_load_obj rfl 24 (.tmp 4) rfl g 0 rfl (p.pub.map u8v) (by simpa using peer_pubA (HAT.out _ HL0.out.blk)) _ Tryz.underlying24 rfl (key_cellsOf _ HP.out.1.1) ?_; rw [HPC.out])
  refine (HTX.out _).mono ?_
  rintro e w2 ⟨rfl, hb⟩
  have HL1 := Lib.hid (HL0.out.below hb)
  clear hb HL0 HTX
  have htl := textL_len p.pub HP.out.1.1
  obtain ⟨tp, htp⟩ : ∃ z, textL p.pub = z := ⟨_, rfl⟩
  have HTP := Lib.hid htp
  rw [htp] at htl ⊢
  clear htp
  go_upto_region 2 with fail
  refine (entry_any tPub tp (by decide) (by omega) _).mono ?_
  rintro e w3 ⟨rfl, rfl⟩
  obtain ⟨t1, ht1⟩ : ∃ z, entT tPub tp = z := ⟨_, rfl⟩
  have HT1 := Lib.hid ht1
  rw [ht1]
  clear ht1 htl
  go_upto_region 2 with fail
  have hal := (Below.refl w3.heap.size w3).alloc (Nat.le_refl _) (.cells #[.string ⟨#[]⟩, .string ⟨#[91, 80, 101, 101, 114, 93]⟩, .string ⟨t1.toArray⟩] 9)
  have HL2 := Lib.hid (show LnAt w g cs [[], tPeer, t1] (.slice (some ⟨w3.heap.size, 0, none⟩) 3 3) (w3.alloc (.cells #[.string ⟨#[]⟩, .string ⟨#[91, 80, 101, 101, 114, 93]⟩, .string ⟨t1.toArray⟩] 9)) from
    ⟨HL1.out.hd.drop.lit 9 1 #[.string ⟨#[]⟩, .string ⟨#[91, 80, 101, 101, 114, 93]⟩, .string ⟨t1.toArray⟩] 3 HL1.out.bel.size (by unfold maxLen; omega) rfl, HL1.out.bel.trans (hal.mono HL1.out.bel.size)⟩)
  generalize w3.alloc (.cells #[.string ⟨#[]⟩, .string ⟨#[91, 80, 101, 101, 114, 93]⟩, .string ⟨t1.toArray⟩] 9) = w4 at HL2 ⊢
  generalize Value.slice (some ⟨w3.heap.size, 0, none⟩) 3 3 = v4 at HL2 ⊢
  clear hal HL1
  obtain ⟨ls, hls⟩ : ∃ z, [[], tPeer, t1] = z := ⟨_, rfl⟩
  rw [hls] at HL2
  have HLS := Lib.hid hls
  have HLL := Lib.hid (show ls.length ≤ 7 from by rw [← hls]; simp)
  have HL := Lib.hid HL2.out
  clear hls HL2
  obtain ⟨x2, hx2⟩ : ∃ z, (if p.sha = List.replicate 32 0 then [] else [entT tSha (textL p.sha)]) = z := ⟨_, rfl⟩
  have HX := Lib.hid hx2
  have HXL := Lib.hid (show x2.length ≤ 1 from by rw [← hx2]; split <;> simp)
  obtain ⟨sc, hsc⟩ : ∃ z, (p.sha.map u8v).toArray = z := ⟨_, rfl⟩
  obtain ⟨zk, hzk⟩ : ∃ z, ((List.replicate 32 (0 : UInt8)).map u8v).toArray = z := ⟨_, rfl⟩
  have HSC := Lib.hid hsc
  have HBZ := Lib.hid (show Tryz.prog.built 24 [] = some zk from by rw [← hzk]; kernel_rfl)
  have heq := fun W => key_eq p.sha (List.replicate 32 0) HP.out.1.2.1 (by simp) W
  rw [hsc, hzk] at heq
  have htx := fun W => text_any p.sha HP.out.1.2.1 sc hsc.symm W
  have HTX := Lib.hid htx
  have hed : ∃ b, decide (p.sha = List.replicate 32 0) = b := ⟨_, rfl⟩
  obtain ⟨b, hb⟩ := hed
  rw [hb] at heq
  have HEQ := Lib.hid heq
  have HB := Lib.hid hb
  clear hx2 hsc hzk heq htx hb
  go_upto_if 12 with (first | ((with_reducible refine at_op (.load 24 (.tmp 9)) rfl ?_); refine wpList_load_obj rfl 24 (.tmp 9) rfl g 32 rfl (p.sha.map u8v) (by simpa using peer_sha (HAT.out _ HL.out.blk) HP.out.1) _ Tryz.underlying24 rfl (key_cellsOf _ HP.out.1.2.1) ?_; rw [HSC.out]) | (refine wpList_build_as rfl 24 [] rfl zk ?_ ?_; exact HBZ.out) | (refine wpList_neq_agg (by rfl) 24 24 10 11 rfl sc zk b rfl rfl key_noguard (HEQ.out _) ?_))
  (try simp only [Act.put, List.setIfInBounds_toArray, List.set_cons_zero, List.set_cons_succ])
  go_cut [3] (fun v3 wx => LnAt w g cs (ls ++ x2) v3 wx)
  case first =>
    cases b with
    | true =>
      have HEE := Lib.hid (show x2 = [] from by rw [← HX.out, if_pos (of_decide_eq_true HB.out)])
      go_wp2_with fail
      go_meet
      rw [HEE.out, List.append_nil]; exact HL.out
    | false =>
      have HNE := Lib.hid (show ¬ p.sha = List.replicate 32 0 from of_decide_eq_false HB.out)
      go_wp2_with ((with_reducible refine at_op (.load 24 (.tmp 14)) rfl ?_); refine wpList_load_obj rfl 24 (.tmp 14) rfl g 32 rfl (p.sha.map u8v) (by simpa using peer_sha (HAT.out _ HL.out.blk) HP.out.1) _ Tryz.underlying24 rfl (key_cellsOf _ HP.out.1.2.1) ?_; rw [HSC.out])
      refine (HTX.out _).mono ?_
      rintro e w5 ⟨rfl, hb5⟩
      replace HL := Lib.hid (HL.out.below hb5)
      have htl := textL_len p.sha HP.out.1.2.1
      clear hb5
      go_wp2_with fail
      refine (entry_any tSha (textL p.sha) (by decide) (by omega) _).mono ?_
      rintro e wq ⟨rfl, rfl⟩
      obtain ⟨t, ht⟩ : ∃ z, entT tSha (textL p.sha) = z := ⟨_, rfl⟩
      have HT := Lib.hid ht
      rw [ht]
      have HRW := Lib.hid (show RdRow (wq.alloc (.cells #[.string ⟨t.toArray⟩] 9)) (wq.alloc (.cells #[.string ⟨t.toArray⟩] 9)).heap.size (some ⟨wq.heap.size, 0, none⟩) 1 1 [[.string ⟨t.toArray⟩]] from blk_row (t := 9) (rest := []) (by simpa using Blk.new wq 9 [.string ⟨t.toArray⟩]) (by simp) rfl)
      clear ht htl
      go_wp2_with (at_builtin; refine wpList_append_rows _ rfl (.tmp 13) (.tmp 18) 43 rfl w.heap.size 9 i0 (.string ⟨#[]⟩) 1 16 Tryz.underlying43 HTI.out.1 HTI.out.2.1 HTI.out.2.2.1 HTI.out.2.2.2 (by rfl) (by decide) _ ls.length _ rfl ((HL.out.hd.own 0 rfl).alloc _) _ _ 1 1 [[.string ⟨t.toArray⟩]] rfl HRW.out (str_one t) (by have := HLL.out; unfold maxLen; omega) (by have := HLL.out; omega) (by have := HL.out.bel.size; simp; omega) ?_; intro v2 w9 ho2 hg2 hv2)
      have hl9 := (HL.out.below ((Below.refl _ _).alloc (Nat.le_refl _) _)).grow t ho2 hg2 hv2
      go_meet
      rw [← HX.out, if_neg HNE.out, HT.out]
      exact hl9
  have HL3 := Lib.hid hcut
  have HXA := HX
  have HLL3 := Lib.hid (show (ls ++ x2).length ≤ 8 from by rw [List.length_append]; have := HLL.out; have := HXL.out; omega)
  clear hcut HL HX HLL HXL HTX HEQ HB HBZ HSC
  obtain ⟨ls, hls⟩ : ∃ z, ls ++ x2 = z := ⟨_, rfl⟩
  rw [hls] at HL3 HLL3
  have HL := HL3
  have HLL := HLL3
  have HLS3 := Lib.hid hls
  clear hls HL3 HLL3
  obtain ⟨x3, hx⟩ : ∃ z, (if p.hasE then [entT tEnd (endT p.ea p.ep)] else []) = z := ⟨_, rfl⟩
  have HX := Lib.hid hx
  have HXL := Lib.hid (show x3.length ≤ 1 from by rw [← hx]; split <;> simp)
  clear hx
  have fo := peer_has (HAT.out _ HL.out.blk) HP.out.1
  rw [Nat.zero_add] at fo
  obtain ⟨b, hb⟩ : ∃ b, p.hasE = b := ⟨_, rfl⟩
  rw [hb] at fo
  have HB := Lib.hid hb
  clear hb
  go_upto_if 21 with fail
  clear fo
  go_cut [3] (fun v3 wx => LnAt w g cs (ls ++ x3) v3 wx)
  case first =>
    cases b with
    | false =>
      have HEE := Lib.hid (show x3 = [] from by rw [← HX.out, HB.out]; rfl)
      go_wp2_with fail
      go_meet
      rw [HEE.out, List.append_nil]; exact HL.out
    | true =>
      obtain ⟨ec, hec⟩ : ∃ z, (prefC p.ea p.ep).toArray = z := ⟨_, rfl⟩
      have hep := rightE_port HP.out.2.1 HB.out
      have htl := endT_le p.ea p.ep hep
      have HFE := Lib.hid (fun W hW => cfFmtEndC p.ea HP.out.1.2.2.1 p.ep HP.out.1.2.2.2.1.1 HP.out.1.2.2.2.1.2 W hW)
      rw [hec] at HFE
      have HEC := Lib.hid hec
      obtain ⟨te, hte⟩ : ∃ z, endT p.ea p.ep = z := ⟨_, rfl⟩
      rw [hte] at HFE htl HX
      clear hec hep hte
      go_wp2_with ((with_reducible refine at_op (.load 55 (.tmp 23)) rfl ?_); refine wpList_load_obj rfl 55 (.tmp 23) rfl g 65 rfl (prefC p.ea p.ep) (by simpa using peer_end (HAT.out _ HL.out.blk) HP.out.1) _ Tryz.underlying55 rfl (end_cellsOf p.ea HP.out.1.2.2.1 p.ep) ?_; rw [HEC.out])
      refine (HFE.out _ (HLV.out.below HL.out.bel)).mono ?_
      rintro e w5 ⟨rfl, hb5⟩
      replace HL := Lib.hid (HL.out.below hb5)
      clear hb5 HFE
      go_wp2_with fail
      refine (entry_any tEnd te (by decide) (by omega) _).mono ?_
      rintro e wq ⟨rfl, rfl⟩
      obtain ⟨t, ht⟩ : ∃ z, entT tEnd te = z := ⟨_, rfl⟩
      have HT := Lib.hid ht
      rw [ht]
      have HRW := Lib.hid (show RdRow (wq.alloc (.cells #[.string ⟨t.toArray⟩] 9)) (wq.alloc (.cells #[.string ⟨t.toArray⟩] 9)).heap.size (some ⟨wq.heap.size, 0, none⟩) 1 1 [[.string ⟨t.toArray⟩]] from blk_row (t := 9) (rest := []) (by simpa using Blk.new wq 9 [.string ⟨t.toArray⟩]) (by simp) rfl)
      clear ht htl
      go_wp2_with (at_builtin; refine wpList_append_rows _ rfl (.tmp 22) (.tmp 27) 43 rfl w.heap.size 9 i0 (.string ⟨#[]⟩) 1 16 Tryz.underlying43 HTI.out.1 HTI.out.2.1 HTI.out.2.2.1 HTI.out.2.2.2 (by rfl) (by decide) _ ls.length _ rfl ((HL.out.hd.own 0 rfl).alloc _) _ _ 1 1 [[.string ⟨t.toArray⟩]] rfl HRW.out (str_one t) (by have := HLL.out; unfold maxLen; omega) (by have := HLL.out; omega) (by have := HL.out.bel.size; simp; omega) ?_; intro v2 w9 ho2 hg2 hv2)
      have hl9 := (HL.out.below ((Below.refl _ _).alloc (Nat.le_refl _) _)).grow t ho2 hg2 hv2
      go_meet
      rw [← HX.out, if_pos HB.out, HT.out]
      exact hl9
  have HL4 := Lib.hid hcut
  have HX3 := HX
  have HLL4 := Lib.hid (show (ls ++ x3).length ≤ 9 from by rw [List.length_append]; have := HLL.out; have := HXL.out; omega)
  clear hcut HL HX HLL HXL
  obtain ⟨ls, hls⟩ : ∃ z, ls ++ x3 = z := ⟨_, rfl⟩
  rw [hls] at HL4 HLL4
  have HL := HL4
  have HLL := HLL4
  have HLS4 := Lib.hid hls
  clear hls HL4 HLL4
  obtain ⟨x4, hx⟩ : ∃ z, (if p.keep = 0 then [] else [entT tKeep (decT p.keep.toNat)]) = z := ⟨_, rfl⟩
  have HX := Lib.hid hx
  have HXL := Lib.hid (show x4.length ≤ 1 from by rw [← hx]; split <;> simp)
  clear hx
  have fo := peer_keep (HAT.out _ HL.out.blk) HP.out.1
  rw [Nat.zero_add] at fo
  obtain ⟨kp, hkp⟩ : ∃ z, p.keep = z := ⟨_, rfl⟩
  rw [hkp] at fo HX
  have HKR := Lib.hid (show 0 ≤ kp ∧ kp ≤ 1073741824 from by rw [← hkp]; exact rightK_le HP.out.2.1)
  have HKP := Lib.hid hkp
  clear hkp
  go_upto_if 31 with fail
  clear fo
  obtain ⟨b, hb⟩ : ∃ b, (kp != 0) = b := ⟨_, rfl⟩
  rw [hb]
  have HB := Lib.hid hb
  clear hb
  go_cut [3] (fun v3 wx => LnAt w g cs (ls ++ x4) v3 wx)
  case first =>
    cases b with
    | false =>
      have HEE := Lib.hid (show x4 = [] from by rw [← HX.out, if_pos (by simpa using HB.out)])
      go_wp2_with fail
      go_meet
      rw [HEE.out, List.append_nil]; exact HL.out
    | true =>
      have HNE := Lib.hid (show ¬ kp = 0 from by simpa using HB.out)
      have fo := peer_keep (HAT.out _ HL.out.blk) HP.out.1
      rw [Nat.zero_add, HKP.out] at fo
      have htl := decT_len kp.toNat 10 (by omega) (by have := HKR.out; omega)
      have HFI := Lib.hid (fun W hW => formatInt_c kp HKR.out.1 (by have := HKR.out; omega) W hW)
      obtain ⟨tk, htk⟩ : ∃ z, decT kp.toNat = z := ⟨_, rfl⟩
      rw [htk] at HFI htl HX
      clear htk
      go_wp2_with fail
      refine (HFI.out _ (HLV.out.below HL.out.bel)).mono ?_
      rintro e w5 ⟨rfl, hb5⟩
      replace HL := Lib.hid (HL.out.below hb5)
      clear hb5 HFI fo
      go_wp2_with fail
      refine (entry_any tKeep tk (by decide) (by omega) _).mono ?_
      rintro e wq ⟨rfl, rfl⟩
      obtain ⟨t, ht⟩ : ∃ z, entT tKeep tk = z := ⟨_, rfl⟩
      have HT := Lib.hid ht
      rw [ht]
      have HRW := Lib.hid (show RdRow (wq.alloc (.cells #[.string ⟨t.toArray⟩] 9)) (wq.alloc (.cells #[.string ⟨t.toArray⟩] 9)).heap.size (some ⟨wq.heap.size, 0, none⟩) 1 1 [[.string ⟨t.toArray⟩]] from blk_row (t := 9) (rest := []) (by simpa using Blk.new wq 9 [.string ⟨t.toArray⟩]) (by simp) rfl)
      clear ht htl
      go_wp2_with (at_builtin; refine wpList_append_rows _ rfl (.tmp 32) (.tmp 37) 43 rfl w.heap.size 9 i0 (.string ⟨#[]⟩) 1 16 Tryz.underlying43 HTI.out.1 HTI.out.2.1 HTI.out.2.2.1 HTI.out.2.2.2 (by rfl) (by decide) _ ls.length _ rfl ((HL.out.hd.own 0 rfl).alloc _) _ _ 1 1 [[.string ⟨t.toArray⟩]] rfl HRW.out (str_one t) (by have := HLL.out; unfold maxLen; omega) (by have := HLL.out; omega) (by have := HL.out.bel.size; simp; omega) ?_; intro v2 w9 ho2 hg2 hv2)
      have hl9 := (HL.out.below ((Below.refl _ _).alloc (Nat.le_refl _) _)).grow t ho2 hg2 hv2
      go_meet
      rw [← HX.out, if_neg HNE.out, HT.out]
      exact hl9
  have HL5 := Lib.hid hcut
  have HX4 := HX
  have HLL5 := Lib.hid (show (ls ++ x4).length ≤ 10 from by rw [List.length_append]; have := HLL.out; have := HXL.out; omega)
  clear hcut HL HX HLL HXL
  obtain ⟨ls, hls⟩ : ∃ z, ls ++ x4 = z := ⟨_, rfl⟩
  rw [hls] at HL5 HLL5
  have HL := HL5
  have HLL := HLL5
  have HLS5 := Lib.hid hls
  clear hls HL5 HLL5
  obtain ⟨x5, hx⟩ : ∃ z, (if p.al.length = 0 then [] else [entT tAll (psT p.al)]) = z := ⟨_, rfl⟩
  have HX := Lib.hid hx
  have HXL := Lib.hid (show x5.length ≤ 1 from by rw [← hx]; split <;> simp)
  clear hx
  have fo : wc.cell? ⟨g, 84, none⟩ = some (.slice A p.al.length c) := peer_al (p := p) (v := .slice A p.al.length c) (by rw [HCS.out]; exact HL.out.blk) HP.out.1
  have HFIN := Lib.hid (show peerT p = ls ++ x5 from by
    rw [← HX.out, ← HLS5.out, ← HLS4.out, ← HLS3.out, ← HLS.out, ← HX4.out, ← HX3.out, ← HXA.out, ← HT1.out, ← HTP.out, ← HKP.out]
    simp [peerT, List.append_assoc])
  have HFP := Lib.hid (fun W (hW : Below w.heap.size w W) (h0 : 0 < p.al.length) => formatPrefixes_any A p.al.length c p.al W (HLV.out.below hW) ⟨(HPF.out.1.below hW).mono hW.size, HPF.out.2⟩ (by have := HP.out.2.2; omega) h0)
  obtain ⟨n, hn⟩ : ∃ z, p.al.length = z := ⟨_, rfl⟩
  have hpl : (psT p.al).length ≤ 10000 := psT_le p.al (by have := HP.out.2.2; omega) (fun q hq => (HP.out.1.2.2.2.2.2 q hq).2.2)
  rw [hn] at fo HX HFP
  obtain ⟨ta, hta⟩ : ∃ z, psT p.al = z := ⟨_, rfl⟩
  rw [hta] at hpl HX HFP
  have HPLL := Lib.hid hpl
  clear hn hta hpl
  by_cases h0 : 0 < n
  · have d1 : decide ((n : Int) > 0) = true := by simp; omega
    have HNE := Lib.hid (show ¬ n = 0 from by omega)
    have HH0 := Lib.hid h0
    have HFQ := Lib.hid (fun W hW => HFP.out W hW h0)
    clear HFP
    go_wp2_with fail
    refine (HFQ.out _ HL.out.bel).mono ?_
    rintro e w5 ⟨rfl, hb5⟩
    replace HL := Lib.hid (HL.out.below hb5)
    have htl := HPLL.out
    clear hb5 HFQ fo d1 h0
    go_wp2_with fail
    refine (entry_any tAll ta (by decide) (by omega) _).mono ?_
    rintro e wq ⟨rfl, rfl⟩
    obtain ⟨t, ht⟩ : ∃ z, entT tAll ta = z := ⟨_, rfl⟩
    have HT := Lib.hid ht
    rw [ht]
    have HRW := Lib.hid (show RdRow (wq.alloc (.cells #[.string ⟨t.toArray⟩] 9)) (wq.alloc (.cells #[.string ⟨t.toArray⟩] 9)).heap.size (some ⟨wq.heap.size, 0, none⟩) 1 1 [[.string ⟨t.toArray⟩]] from blk_row (t := 9) (rest := []) (by simpa using Blk.new wq 9 [.string ⟨t.toArray⟩]) (by simp) rfl)
    clear ht htl
    go_wp2_with (at_builtin; refine wpList_append_rows _ rfl (.tmp 43) (.tmp 48) 43 rfl w.heap.size 9 i0 (.string ⟨#[]⟩) 1 16 Tryz.underlying43 HTI.out.1 HTI.out.2.1 HTI.out.2.2.1 HTI.out.2.2.2 (by rfl) (by decide) _ ls.length _ rfl ((HL.out.hd.own 0 rfl).alloc _) _ _ 1 1 [[.string ⟨t.toArray⟩]] rfl HRW.out (str_one t) (by have := HLL.out; unfold maxLen; omega) (by have := HLL.out; omega) (by have := HL.out.bel.size; simp; omega) ?_; intro v2 w9 ho2 hg2 hv2)
    have HL9 := Lib.hid ((HL.out.below ((Below.refl _ _).alloc (Nat.le_refl _) _)).grow t ho2 hg2 hv2)
    have HX9 := Lib.hid (show x5 = [t] from by rw [← HX.out, if_neg HNE.out, HT.out])
    clear ho2 hg2 hv2 HL HRW
    go_wp2
    go_ret
    have h9 := HL9.out
    rw [← HX9.out, ← HFIN.out] at h9
    exact ⟨_, rfl, h9.hd.own 0 rfl, h9.bel⟩
  · obtain rfl : n = 0 := by omega
    have d1 : decide (((0 : Nat) : Int) > 0) = false := by decide
    have HX9 := Lib.hid (show x5 = [] from by rw [← HX.out, if_pos rfl])
    clear HFP
    go_wp2_with fail
    go_ret
    have h9 := HL.out
    rw [← List.append_nil ls, ← HX9.out, ← HFIN.out] at h9
    exact ⟨_, rfl, h9.hd.own 0 rfl, h9.bel⟩
end Go.Proofs.YtcbfchkhbngpkaaGreatDoor
namespace Go.Proofs.YtcbfchkhbngpkaaGreatDoor
open Go.RowKit

theorem joinT_le (ch : UInt8) : ∀ ys : List (List UInt8), (∀ x ∈ ys, x.length ≤ 11000) → (joinT ch ys).length ≤ 11001 * ys.length := by
  intro ys
  induction ys with
  | nil => intro _; simp [joinT]
  | cons a r ih =>
    intro h2
    have ha := h2 a (List.mem_cons_self ..)
    cases r with
    | nil => simp only [joinT, List.length_cons, List.length_nil]; omega
    | cons b r =>
      have := ih (fun x hx => h2 x (List.mem_cons_of_mem _ hx))
      simp only [joinT, List.length_append, List.length_cons] at this ⊢
      omega
theorem alls_mem {p : PeerM} : ∀ {l : List PeerM}, p ∈ l → p.al.length ≤ (l.flatMap fun p => p.al).length
  | q :: r, h => by
    rw [List.flatMap_cons, List.length_append]
    rcases List.mem_cons.1 h with rfl | h
    · omega
    · have := alls_mem h
      omega
theorem validE_zero {x : ConfM} (h : validE x = 0) : (0 ≤ x.port ∧ x.port ≤ 65535) ∧ x.peers.length ≤ 8 ∧ (∀ p ∈ x.peers, p.al.length ≤ 16) ∧ ∀ p ∈ x.peers, rightP p = true := by
  unfold validE at h
  split at h
  · cases h
  · rename_i h1
    split at h
    · cases h
    · rename_i h2
      simp only [not_or, Int.not_lt, Nat.not_lt] at h1 h2
      have h3 : x.peers.all rightP = true := by
        have := h2.2.2
        simpa using this
      refine ⟨⟨h2.1, h2.2.1⟩, h1.1, fun p hp => ?_, List.all_eq_true.1 h3⟩
      refine Nat.le_trans ?_ h1.2
      rw [allP]
      exact alls_mem hp
theorem flat_one : ∀ l : List (List UInt8), (l.map fun t => [strV t]).flatten = l.map strV
  | [] => rfl
  | a :: r => by rw [List.map_cons, List.flatten_cons, flat_one r]; rfl
theorem peerT_le (p : PeerM) : (peerT p).length ≤ 7 := by
  simp only [peerT, List.length_cons, List.length_append]
  split <;> split <;> split <;> split <;> simp
theorem lines_le : ∀ l : List PeerM, (l.flatMap peerT).length ≤ 7 * l.length
  | [] => by simp
  | p :: r => by
    have := lines_le r
    have := peerT_le p
    rw [List.flatMap_cons, List.length_append, List.length_cons]
    omega
theorem strs_one (l : List (List UInt8)) : ∀ u ∈ (l.map fun t => [strV t]).flatten, u.oneCell' = true := by
  rw [flat_one]
  intro u hu
  obtain ⟨t, _, rfl⟩ := List.mem_map.1 hu
  rfl
theorem entT_len (a b : List UInt8) (ha : a.length ≤ 20) (hb : b.length ≤ 10000) : (entT a b).length ≤ 11000 := by
  rw [entT]
  simp only [List.length_append, List.length_cons, List.length_nil]
  omega
theorem peerT_each {p : PeerM} (hp : p.ok) (hr : rightP p = true) (hal : p.al.length ≤ 16) : ∀ t ∈ peerT p, t.length ≤ 11000 := by
  intro t ht
  simp only [peerT, List.mem_cons, List.mem_append] at ht
  rcases ht with rfl | rfl | rfl | ht | ht | ht | ht
  · simp
  · decide
  · exact entT_len _ _ (by decide) (Nat.le_trans (textL_len _ hp.1) (by omega))
  · split at ht
    · cases ht
    · rw [List.mem_singleton] at ht
      subst ht
      exact entT_len _ _ (by decide) (Nat.le_trans (textL_len _ hp.2.1) (by omega))
  · split at ht
    · rename_i hb
      rw [List.mem_singleton] at ht
      subst ht
      exact entT_len _ _ (by decide) (Nat.le_trans (endT_le _ _ (rightE_port hr hb)) (by omega))
    · cases ht
  · split at ht
    · cases ht
    · rw [List.mem_singleton] at ht
      subst ht
      have := rightK_le hr
      exact entT_len _ _ (by decide) (Nat.le_trans (decT_len _ 10 (by omega) (by omega)) (by omega))
  · split at ht
    · cases ht
    · rw [List.mem_singleton] at ht
      subst ht
      exact entT_len _ _ (by decide) (psT_le _ hal (fun q hq => (hp.2.2.2.2.2 q hq).2.2))
theorem confT_each {x : ConfM} (hx : x.ok) (hq : 0 ≤ x.port ∧ x.port ≤ 65535) (hal : ∀ p ∈ x.peers, p.al.length ≤ 16) (hr : ∀ p ∈ x.peers, rightP p = true) : ∀ t ∈ confT x, t.length ≤ 11000 := by
  intro t ht
  simp only [confT, List.mem_cons, List.mem_flatMap] at ht
  rcases ht with rfl | rfl | rfl | ⟨p, hp, ht⟩
  · decide
  · exact entT_len _ _ (by decide) (Nat.le_trans (textL_len _ hx.1) (by omega))
  · exact entT_len _ _ (by decide) (Nat.le_trans (decT_len _ 10 (by omega) (by omega)) (by omega))
  · exact peerT_each (hx.2.2 p hp) (hr p hp) (hal p hp) t ht
theorem joinN_c (g c : Nat) (xs : List (List UInt8)) (ch : UInt8) (w : World) (h : At w g 0 (xs.map strV)) (hg : g < w.heap.size) (hn : xs.length ≤ 1000) (hl : ∀ x ∈ xs, x.length ≤ 11000) (hc : xs.length ≤ c) :
    Calls Tryz.prog 26 #[.slice (some ⟨g, 0, none⟩) xs.length c, .string ⟨#[ch]⟩] w fun e w' => e = .returned (.string ⟨(joinT ch xs).toArray⟩) ∧ Below w.heap.size w w' := by
  have e1 : (xs.map fun l => ByteArray.mk l.toArray).length = xs.length := by simp
  have e2 : (xs.map fun l => ByteArray.mk l.toArray).map (·.data.toList) = xs := by rw [List.map_map]; exact (List.map_congr_left fun l _ => mk_data l).trans (List.map_id _)
  have e3 : Lib.join ((xs.map fun l => ByteArray.mk l.toArray).map (·.data.toList)) (ByteArray.mk #[ch]).data.toList = joinT ch xs := by rw [e2]; exact join_lib ch xs
  have hj := joinT_le ch xs hl
  have hc2 := sh_strings_Join g 0 c (xs.map fun l => ByteArray.mk l.toArray) ⟨#[ch]⟩ w (fun j x hx => h j (.string x) (by
    rw [List.getElem?_map] at hx ⊢
    cases hq : xs[j]? with
    | none => rw [hq] at hx; cases hx
    | some y =>
      rw [hq] at hx
      rw [← Option.some.inj hx]; rfl)) hg (by rw [e1]; omega) (by rw [e1]; exact hc) (by rw [e3]; omega)
  rw [e3, e1] at hc2
  exact hc2
theorem conf_priv {w : World} {g : Nat} {x : ConfM} {v : Value} (h : At w g 0 (x.cells v)) : At w g 0 (x.priv.map u8v) := fun j u hj => h j u (by rw [ConfM.cells, List.getElem?_append_left (List.getElem?_eq_some_iff.1 hj).1]; exact hj)
theorem conf_port2 {w : World} {g : Nat} {x : ConfM} {v : Value} (h : At w g 0 (x.cells v)) (hx : x.ok) : w.cell? ⟨g, 32, none⟩ = some (.int .i64 x.port) := by
  have h2 := h 32 (.int .i64 x.port) (by rw [ConfM.cells, List.getElem?_append_right (by rw [List.length_map, hx.1]; decide), List.length_map, hx.1]; rfl)
  simpa using h2
theorem conf_peers2 {w : World} {g : Nat} {x : ConfM} {v : Value} (h : At w g 0 (x.cells v)) (hx : x.ok) : w.cell? ⟨g, 33, none⟩ = some v := by
  have h2 := h 33 v (by rw [ConfM.cells, List.getElem?_append_right (by rw [List.length_map, hx.1]; decide), List.length_map, hx.1]; rfl)
  simpa using h2
set_option maxRecDepth 100000 in
set_option maxHeartbeats 8000000 in
theorem format_any (x : ConfM) (A : Option Addr) (n cap : Nat) (w : World) (hc : x.ok) (hr : PeRd w w.heap.size A n x.peers) (hn : n ≤ 1000) (ha : ∀ p ∈ x.peers, p.al.length ≤ 1000) (hlv : LvCf w) :
    Calls Tryz.prog 9 #[.agg (x.cells (.slice A n cap)).toArray] w fun e w' => e = .returned (.tuple #[.string ⟨(if validE x = 0 then fmtM x else []).toArray⟩, .int .i64 (validE x : Int)]) ∧ Below w.heap.size w w' := by
  obtain ⟨i0, hti, hz0, hz1, hz2⟩ := info_parts (P := Tryz.prog) (e := 9) (z := .string ⟨#[]⟩) (size := 1) (bytes := 16) (by kernel_rfl)
  have HTI := Lib.hid (And.intro hti (And.intro hz0 (And.intro hz1 hz2)))
  have HC := Lib.hid hc
  have HR := Lib.hid hr
  have HLV := Lib.hid hlv
  have hva := fun W (hb : Below w.heap.size w W) => validate_any x A n cap W hc ((hr.below hb).mono hb.size) hn ha (hlv.below hb)
  have hu := conf_cellsOf x hc (.slice A n cap)
  obtain ⟨vE, hvE⟩ : ∃ z, validE x = z := ⟨_, rfl⟩
  obtain ⟨tx, htx0⟩ : ∃ z, (if validE x = 0 then fmtM x else []) = z := ⟨_, rfl⟩
  rw [htx0]
  rw [hvE] at hva ⊢
  have HVE := Lib.hid hvE
  have HTX0 := Lib.hid htx0
  clear hvE htx0
  obtain ⟨cs, hcs⟩ : ∃ z, x.cells (.slice A n cap) = z := ⟨_, rfl⟩
  have HCS := Lib.hid hcs
  rw [hcs] at hva hu ⊢
  obtain ⟨ca, hca⟩ : ∃ z, cs.toArray = z := ⟨_, rfl⟩
  rw [hca] at hva ⊢
  have HCA := Lib.hid hca
  have HVA := Lib.hid hva
  have HU := Lib.hid hu
  have hb0 := (Below.refl w.heap.size w).alloc (Nat.le_refl _) (.cells ca 27)
  have HB0 := Lib.hid hb0
  have HK0 := Lib.hid (show Blk (w.alloc (.cells ca 27)) w.heap.size 27 cs from by rw [← hca]; exact Blk.new w 27 cs)
  have HLV1 := Lib.hid (hlv.below hb0)
  clear hti hz0 hz1 hz2 hc hr hlv hva hu hcs hca hb0 hn ha
  go_enter Tryz.func9, Tryz.ntmps9
  go_upto_region 1 with fail
  generalize w.alloc (.cells ca 27) = w1 at HB0 HK0 HLV1 ⊢
  obtain ⟨g, hg⟩ : ∃ g, w.heap.size = g := ⟨_, rfl⟩
  have HG := Lib.hid hg
  have HKG := Lib.hid (show Blk w1 g 27 cs from by rw [← hg]; exact HK0.out)
  rw [hg]
  clear hg HK0
  have HAT := Lib.hid (fun (W : World) (h : Below w1.heap.size w1 W) => (show At W g 0 (x.cells (.slice A n cap)) from by rw [HCS.out]; exact (HKG.out.below h HKG.out.lt).all))
  go_wp2_with ((with_reducible refine at_op (.load 27 (.tmp 1)) rfl ?_); refine wpList_load_obj rfl 27 (.tmp 1) rfl g 0 rfl cs HKG.out.all _ Tryz.underlying27 rfl HU.out ?_; rw [HCA.out])
  refine (HVA.out _ HB0.out).mono ?_
  rintro e w2 ⟨rfl, hb⟩
  have HB1 := Lib.hid (show Below w1.heap.size w1 w2 from hb)
  clear hb HVA
  by_cases hv : vE = 0
  · obtain rfl := hv
    have HV := HVE
    have HTF := Lib.hid (show tx = fmtM x from by rw [← HTX0.out, if_pos HV.out])
    clear HTX0
    obtain ⟨pc, hpc⟩ : ∃ z, (x.priv.map u8v).toArray = z := ⟨_, rfl⟩
    have HPC := Lib.hid hpc
    have htx := fun W => text_any x.priv HC.out.1 pc hpc.symm W
    have htl := textL_len x.priv HC.out.1
    obtain ⟨tp, htp⟩ : ∃ z, textL x.priv = z := ⟨_, rfl⟩
    rw [htp] at htx htl
    have HTX := Lib.hid htx
    have HTL := Lib.hid htl
    have HTP := Lib.hid htp
    obtain ⟨hpo, hpn, hpa, hpr⟩ := validE_zero HV.out
    have hit := fun W hW => itoa_c x.port (by omega) (by omega) W hW
    have hdl := decT_len x.port.toNat 10 (by omega) (by omega)
    obtain ⟨td, htd⟩ : ∃ z, decT x.port.toNat = z := ⟨_, rfl⟩
    rw [htd] at hit hdl
    have HIT := Lib.hid hit
    have HDL := Lib.hid hdl
    have HTD := Lib.hid htd
    have HVV := Lib.hid (And.intro hpn (And.intro hpa hpr))
    clear hpc htx htl htp hpo hpn hpa hpr hit hdl htd
    have d0 : (((0 : Nat) : Int) != 0) = false := by decide
    go_upto_region 4 with fail
    clear d0
    go_cut [5] (fun v5 wx => ∃ t1 t2, t1 = entT tPriv tp ∧ t2 = entT tPort td ∧ wx.ownsRow w.heap.size 9 1 v5 3 [strV tIface, strV t1, strV t2] ∧ Below w1.heap.size w1 wx)
    case first =>
      refine wp_region_held_drew (S := fun W' => Below w1.heap.size w1 W') (by kernel_rfl) (HB1.out.trans ((Below.refl _ _).drew.mono HB1.out.size)) (fun hHeld => ?_)
      generalize w2.drew = wd at hHeld ⊢
      refine take_first (v := ?_) 0 rfl (by kernel_rfl) (by kernel_rfl) (by kernel_rfl) (fun _ _ _ h => h) (Or.inl ⟨by rfl, ?_⟩) (by assumption) ?_
      rotate_left
      · (intro w hSw; (try dsimp only at hSw); go_simp; try with_reducible rfl)
      (try simp only [Act.put, List.setIfInBounds_toArray, List.set_cons_zero, List.set_cons_succ])
      refine take_first (v := .agg pc) 1 rfl (by kernel_rfl) (by kernel_rfl) (by kernel_rfl) (fun _ _ _ h => h) (by rw [← HPC.out]; exact yields_load_obj (by rfl) 24 (.tmp 13) rfl g 0 rfl _ (fun W hW => conf_priv (HAT.out W hW)) _ Tryz.underlying24 rfl (key_cellsOf _ HC.out.1)) (by assumption) ?_
      (try simp only [Act.put, List.setIfInBounds_toArray, List.set_cons_zero, List.set_cons_succ])
      refine take_first (v := ?_) 4 rfl (by kernel_rfl) (by kernel_rfl) (by kernel_rfl) (fun _ _ _ h => h) (Or.inl ⟨by rfl, ?_⟩) (by assumption) ?_
      rotate_left
      · (intro w hSw; (try dsimp only at hSw); go_simp; try with_reducible rfl)
      (try simp only [Act.put, List.setIfInBounds_toArray, List.set_cons_zero, List.set_cons_succ])
      refine take_first (v := ?_) 5 rfl (by kernel_rfl) (by kernel_rfl) (by kernel_rfl) (fun _ _ _ h => h) (Or.inl ⟨by rfl, ?_⟩) (by assumption) ?_
      rotate_left
      · (intro w hSw; (try dsimp only at hSw); have hpt := conf_port2 (HAT.out _ hSw) HC.out; go_simp; try with_reducible rfl)
      (try simp only [Act.put, List.setIfInBounds_toArray, List.set_cons_zero, List.set_cons_succ])
      refine step_one 2 rfl (by kernel_rfl) (fun K hK => ?_)
      go_simp
      refine (HTX.out _).mono ?_
      rintro e w3 ⟨rfl, hb⟩
      have hb2 := hHeld.trans (hb.mono hHeld.size)
      clear hb
      go_wp2_with fail
      refine hK.out _ _ hb2 (fun hHeld => ?_)
      clear hK K hb2
      (try simp only [Act.put, List.setIfInBounds_toArray, List.set_cons_zero, List.set_cons_succ])
      refine step_one 3 rfl (by kernel_rfl) (fun K hK => ?_)
      go_simp
      refine (entry_any tPriv tp (by decide) (by have := HTL.out; omega) _).mono ?_
      rintro e w4 ⟨rfl, rfl⟩
      go_wp2_with fail
      refine hK.out _ _ hHeld (fun hHeld => ?_)
      clear hK K
      (try simp only [Act.put, List.setIfInBounds_toArray, List.set_cons_zero, List.set_cons_succ])
      refine step_one 6 rfl (by kernel_rfl) (fun K hK => ?_)
      go_simp
      refine (HIT.out _ (HLV1.out.below hHeld)).mono ?_
      rintro e w5 ⟨rfl, hb⟩
      have hb2 := hHeld.trans (hb.mono hHeld.size)
      clear hb
      go_wp2_with fail
      refine hK.out _ _ hb2 (fun hHeld => ?_)
      clear hK K hb2
      (try simp only [Act.put, List.setIfInBounds_toArray, List.set_cons_zero, List.set_cons_succ])
      refine step_one 7 rfl (by kernel_rfl) (fun K hK => ?_)
      go_simp
      refine (entry_any tPort td (by decide) (by have := HDL.out; omega) _).mono ?_
      rintro e w6 ⟨rfl, rfl⟩
      go_wp2_with fail
      refine hK.out _ _ hHeld (fun hHeld => ?_)
      clear hK K
      (try simp only [Act.put, List.setIfInBounds_toArray, List.set_cons_zero, List.set_cons_succ])

      refine step_one 8 rfl (by kernel_rfl) (fun K hK => ?_)
      go_simp
      have hal := (Below.refl w6.heap.size w6).alloc (Nat.le_refl _) (.cells #[.string ⟨#[91, 73, 110, 116, 101, 114, 102, 97, 99, 101, 93]⟩, .string ⟨(entT tPriv tp).toArray⟩, .string ⟨(entT tPort td).toArray⟩] 9)
      have hlit := World.ownsRow_lit (base := w.heap.size) (e := 9) (size := 1) w6 #[.string ⟨#[91, 73, 110, 116, 101, 114, 102, 97, 99, 101, 93]⟩, .string ⟨(entT tPriv tp).toArray⟩, .string ⟨(entT tPort td).toArray⟩] 3 (Nat.le_trans HB0.out.size hHeld.size) (by unfold maxLen; omega) rfl
      have hb6 := hHeld.trans (hal.mono hHeld.size)
      refine hK.out _ _ hb6 (fun hHeld => ?_)
      clear hK K
      (try simp only [Act.put, List.setIfInBounds_toArray, List.set_cons_zero, List.set_cons_succ])
      refine take_first (v := ?_) 9 rfl (by kernel_rfl) (by kernel_rfl) (by kernel_rfl) (fun _ _ _ h => h) (Or.inl ⟨by rfl, ?_⟩) (by assumption) ?_
      rotate_left
      · (intro w hSw; (try dsimp only at hSw); go_simp; try with_reducible rfl)
      (try simp only [Act.put, List.setIfInBounds_toArray, List.set_cons_zero, List.set_cons_succ])
      refine wpAnyH_done (by kernel_rfl) ?_ _
      clear hHeld hal
      have HFN := Lib.hid (And.intro hlit hb6)
      clear hlit hb6
      go_wp2_with fail
      go_meet
      exact ⟨_, _, rfl, rfl, HFN.out.1, HFN.out.2⟩
    obtain ⟨t1, t2, ht1, ht2, ho, hb⟩ := hcut
    have HT1 := Lib.hid (And.intro ht1 ht2)
    have HO := Lib.hid ho
    have HB := Lib.hid (HB0.out.trans (hb.mono HB0.out.size))
    have fo := conf_peers2 (HAT.out _ hb) HC.out
    have HLN := Lib.hid HR.out.len
    clear ht1 ht2 ho hb HTX HIT HPC
    obtain ⟨l0, hl0⟩ : ∃ z, [tIface, t1, t2] = z := ⟨_, rfl⟩
    have HL0 := Lib.hid hl0
    have HO0 := Lib.hid (show wc.ownsRow w.heap.size 9 1 u5 l0.length (l0.map strV) from by rw [← hl0]; exact HO.out)
    have HLL0 := Lib.hid (show l0.length = 3 from by rw [← hl0]; rfl)
    clear hl0 HO
    go_wp2_with fail
    clear fo
    go_loopw [5, 25] (fun v i wr => ∃ j : Nat, j ≤ n ∧ i = .int .i64 (j : Int) ∧ wr.ownsRow w.heap.size 9 1 v (l0 ++ (x.peers.take j).flatMap peerT).length ((l0 ++ (x.peers.take j).flatMap peerT).map strV) ∧ Below w.heap.size w wr) (fun _ i _ => n - (intOf i).toNat)
    case atStart => exact ⟨0, Nat.zero_le _, rfl, by simpa using HO0.out, HB.out⟩
    case round =>
      clear HO0 HB
      obtain ⟨j, hj, rfl, ho, hb⟩ := hrel
      have HB := Lib.hid hb
      obtain ⟨ls, hls⟩ : ∃ z, l0 ++ (x.peers.take j).flatMap peerT = z := ⟨_, rfl⟩
      rw [hls] at ho
      have HO := Lib.hid ho
      have HLS := Lib.hid hls
      clear ho hb hls
      by_cases hjn : j < n
      · have d1 : decide ((j : Int) < (n : Int)) = true := by simp; omega
        obtain ⟨b, off, rfl⟩ := HR.out.addr (by omega)
        obtain ⟨p, hp⟩ : ∃ p, x.peers[j]? = some p := ⟨x.peers[j]'(by rw [HLN.out]; exact hjn), List.getElem?_eq_getElem _⟩
        obtain ⟨hpk, A', c', hcc, hcm, hpf, hbl, hat⟩ := HR.out.at j p hp
        have hpm := List.mem_of_getElem? hp
        have HP := Lib.hid (And.intro hp (And.intro hpk (And.intro (HVV.out.2.1 p hpm) (HVV.out.2.2 p hpm))))
        have HPF := Lib.hid hpf
        have HA2 := Lib.hid (show At wr b (off + j * 85) (p.cells (.slice A' p.al.length c')) from fun q v hv => (World.cell?_of_block (HB.out.block b hbl)).trans (hat q v hv))
        obtain ⟨oc, hoc⟩ : ∃ z, (p.cells (.slice A' p.al.length c')).toArray = z := ⟨_, rfl⟩
        have HOC := Lib.hid hoc
        obtain ⟨zs, hzs⟩ : ∃ z, (#[.int .u8 0, .int .u8 0, .int .u8 0, .int .u8 0, .int .u8 0, .int .u8 0, .int .u8 0, .int .u8 0, .int .u8 0, .int .u8 0, .int .u8 0, .int .u8 0, .int .u8 0, .int .u8 0, .int .u8 0, .int .u8 0, .int .u8 0, .int .u8 0, .int .u8 0, .int .u8 0, .int .u8 0, .int .u8 0, .int .u8 0, .int .u8 0, .int .u8 0, .int .u8 0, .int .u8 0, .int .u8 0, .int .u8 0, .int .u8 0, .int .u8 0, .int .u8 0, .int .u8 0, .int .u8 0, .int .u8 0, .int .u8 0, .int .u8 0, .int .u8 0, .int .u8 0, .int .u8 0, .int .u8 0, .int .u8 0, .int .u8 0, .int .u8 0, .int .u8 0, .int .u8 0, .int .u8 0, .int .u8 0, .int .u8 0, .int .u8 0, .int .u8 0, .int .u8 0, .int .u8 0, .int .u8 0, .int .u8 0, .int .u8 0, .int .u8 0, .int .u8 0, .int .u8 0, .int .u8 0, .int .u8 0, .int .u8 0, .int .u8 0, .int .u8 0, .bool false, .bool false, .int .u8 0, .int .u8 0, .int .u8 0, .int .u8 0, .int .u8 0, .int .u8 0, .int .u8 0, .int .u8 0, .int .u8 0, .int .u8 0, .int .u8 0, .int .u8 0, .int .u8 0, .int .u8 0, .int .u8 0, .int .u8 0, .int .i64 0, .int .i64 0, .slice none 0 0] : Array Value).toList = z := ⟨_, rfl⟩
        have HZB := Lib.hid (show Blk (wr.alloc (.cells #[.int .u8 0, .int .u8 0, .int .u8 0, .int .u8 0, .int .u8 0, .int .u8 0, .int .u8 0, .int .u8 0, .int .u8 0, .int .u8 0, .int .u8 0, .int .u8 0, .int .u8 0, .int .u8 0, .int .u8 0, .int .u8 0, .int .u8 0, .int .u8 0, .int .u8 0, .int .u8 0, .int .u8 0, .int .u8 0, .int .u8 0, .int .u8 0, .int .u8 0, .int .u8 0, .int .u8 0, .int .u8 0, .int .u8 0, .int .u8 0, .int .u8 0, .int .u8 0, .int .u8 0, .int .u8 0, .int .u8 0, .int .u8 0, .int .u8 0, .int .u8 0, .int .u8 0, .int .u8 0, .int .u8 0, .int .u8 0, .int .u8 0, .int .u8 0, .int .u8 0, .int .u8 0, .int .u8 0, .int .u8 0, .int .u8 0, .int .u8 0, .int .u8 0, .int .u8 0, .int .u8 0, .int .u8 0, .int .u8 0, .int .u8 0, .int .u8 0, .int .u8 0, .int .u8 0, .int .u8 0, .int .u8 0, .int .u8 0, .int .u8 0, .int .u8 0, .bool false, .bool false, .int .u8 0, .int .u8 0, .int .u8 0, .int .u8 0, .int .u8 0, .int .u8 0, .int .u8 0, .int .u8 0, .int .u8 0, .int .u8 0, .int .u8 0, .int .u8 0, .int .u8 0, .int .u8 0, .int .u8 0, .int .u8 0, .int .i64 0, .int .i64 0, .slice none 0 0] 57)) wr.heap.size 57 zs from by rw [← hzs]; exact Blk.new wr 57 _)
        have HZL := Lib.hid (show zs.length = 85 from by rw [← hzs]; rfl)
        have HJ := Lib.hid (show j < n ∧ n ≤ 8 from ⟨hjn, by have := HVV.out.1; have := HLN.out; omega⟩)
        clear hp hpk hpf hbl hat hoc hcc hcm hzs hpm
        go_upto_region 8 with (first | ((with_reducible refine at_op (.load 57 (.tmp 27)) rfl ?_); refine wpList_load_obj rfl 57 (.tmp 27) rfl b _ rfl _ HA2.out _ Tryz.underlying57 rfl (peer_cellsOf p HP.out.2.1 _) ?_; rw [HOC.out]) | ((with_reducible refine at_op (.store 57 (.tmp 7) (.tmp 28)) rfl ?_); refine wpList_store_obj rfl 57 (.tmp 7) (.tmp 28) rfl wr.heap.size 0 (p.cells (.slice A' p.al.length c')) rfl (by show Value.agg oc = _; rw [HOC.out]) 57 zs HZB.out (peer_cellsOf p HP.out.2.1 _) (by rw [PeerM.cells_length HP.out.2.1, HZL.out]; decide) (peer_one p A' _ c') ?_; intro w7 hb7 hg7))
        rw [setL_all zs _ (by rw [PeerM.cells_length HP.out.2.1, HZL.out])] at hb7
        have hbl7 : Below wr.heap.size wr w7 := ((Below.refl _ _).alloc (Nat.le_refl _) _).grown hg7 (by simp) (by intro k hk; injection hk with hk; omega)
        have HB7 := Lib.hid hb7
        have HW7 := Lib.hid (HB.out.trans (hbl7.mono HB.out.size))
        have HO7 := Lib.hid (own_below HO.out hbl7)
        generalize wr.heap.size = g7 at HB7 ⊢
        clear hb7 hg7 hbl7 HZB HA2 HO HB
        have hpl := peerLines_any p HP.out.2.1 HP.out.2.2.2 HP.out.2.2.1 A' c' w7 (HLV.out.below HW7.out) ⟨(HPF.out.1.below HW7.out).mono HW7.out.size, HPF.out.2⟩
        rw [HOC.out] at hpl
        have HPL := Lib.hid hpl
        clear hpl
        go_upto_region 8 with fail
        go_wp2_with ((with_reducible refine at_op (.load 57 (.tmp 7)) rfl ?_); refine wpList_load_obj rfl 57 (.tmp 7) rfl g7 0 rfl _ HB7.out.all _ Tryz.underlying57 rfl (peer_cellsOf p HP.out.2.1 _) ?_; rw [HOC.out])
        refine HPL.out.mono ?_
        rintro e w8 ⟨v8, rfl, ho8, hb8⟩
        obtain ⟨A8, c8, rfl, _, _, _⟩ := own_sliceK ho8
        have HRW := Lib.hid (RdRow.of_own (os := (peerT p).map fun t => [strV t]) (by simp) (by simp) (show w8.ownsRow _ 9 1 (.slice A8 (peerT p).length c8) (peerT p).length ((peerT p).map fun t => [strV t]).flatten from by rw [flat_one]; exact ho8))
        have HW8 := Lib.hid (HW7.out.trans (hb8.mono HW7.out.size))
        have HO8 := Lib.hid (own_below HO7.out hb8)
        have HLB := Lib.hid (show ls.length ≤ 100 ∧ (peerT p).length ≤ 7 from ⟨by
          have h1 := lines_le (x.peers.take j)
          have h2 := HLS.out
          have h3 := congrArg List.length h2
          rw [List.length_append, HLL0.out] at h3
          have := HJ.out
          rw [List.length_take] at h1
          omega, peerT_le p⟩)
        clear ho8 hb8 HW7 HO7 HPL
        obtain ⟨j2, hj2⟩ : ∃ z, j + 1 = z := ⟨_, rfl⟩
        have e8 : (j : Int) + 1 = (j2 : Int) := by omega
        have w8' : IntKind.i64.wrap (j2 : Int) = (j2 : Int) := by have := HJ.out; rw [IntKind.wrap_i64]; omega
        have HJ2 := Lib.hid (show j2 ≤ n ∧ n - j2 < n - j ∧ j2 = j + 1 from by omega)
        clear hj2 hj hjn d1
        have HAPP := Lib.hid (show l0 ++ (x.peers.take j2).flatMap peerT = ls ++ peerT p from by
          rw [HJ2.out.2.2, take_snoc HP.out.1, List.flatMap_append, ← List.append_assoc, HLS.out]; simp)
        go_wp2_with (at_builtin; refine wpList_append_rows _ rfl (.tmp 29) (.tmp 31) 43 rfl w.heap.size 9 i0 (.string ⟨#[]⟩) 1 16 Tryz.underlying43 HTI.out.1 HTI.out.2.1 HTI.out.2.2.1 HTI.out.2.2.2 (by rfl) (by decide) _ ls.length _ rfl HO8.out _ _ (peerT p).length c8 ((peerT p).map fun t => [strV t]) rfl HRW.out (strs_one _) (by have := HLB.out; unfold maxLen; omega) (by have := HLB.out; omega) HW8.out.size ?_; intro v9 w9 ho9 hg9 hv9)
        have HW9 := Lib.hid (HW8.out.grown hg9 HW8.out.size (fun k e => (own_lt HO8.out e).1))
        have HO9 := Lib.hid (show w9.ownsRow w.heap.size 9 1 v9 (ls ++ peerT p).length ((ls ++ peerT p).map strV) from by
          rw [List.length_append, List.map_append, ← flat_one (peerT p)]; exact ho9)
        clear ho9 hg9 hv9 HO8 HW8 HRW
        go_wp2
        go_roundw
        case rel => exact ⟨j2, HJ2.out.1, rfl, by rw [HAPP.out]; exact HO9.out, HW9.out⟩
        case measure => simp [intOf]; exact HJ2.out.2.1
      · obtain rfl : j = n := by omega
        have d1 : decide ((j : Int) < (j : Int)) = false := by simp
        have hls : ls = confT x := by
          rw [← HLS.out, List.take_of_length_le (by rw [HLN.out]; exact Nat.le_refl _), ← HL0.out, HT1.out.1, HT1.out.2, ← HTP.out, ← HTD.out]
          rfl
        have HEND := Lib.hid (show tx = joinT 10 ls ++ [10] from by
          rw [HTF.out, fmtM, joinT_nl ls (by rw [hls]; simp [confT]), hls])
        have hlen : 3 ≤ ls.length ∧ ls.length ≤ 60 := by
          have h1 := lines_le (x.peers.take j)
          have h3 := congrArg List.length HLS.out
          rw [List.length_append, HLL0.out] at h3
          rw [List.length_take] at h1
          have := HVV.out.1
          omega
        have hown := HO.out
        obtain ⟨A8, k, hk, hA⟩ := own_slice hown
        subst hk
        obtain ⟨gl, rfl⟩ := (own_addr hown).2.2 (by omega)
        have hl1 : ∀ t ∈ ls, t.length ≤ 11000 := by
          rw [hls]
          exact confT_each HC.out (by have := validE_zero HV.out; exact this.1) HVV.out.2.1 HVV.out.2.2
        have HJN := Lib.hid (joinN_c gl k ls 10 wr (own_at hown) (own_top hown) (by omega) hl1 (own_addr hown).1)
        have hjl := joinT_le 10 ls hl1
        obtain ⟨jt, hjt⟩ : ∃ z, joinT 10 ls = z := ⟨_, rfl⟩
        rw [hjt] at HJN HEND hjl
        have HADD := Lib.hid (fun W => add_text jt [10] (by omega) (by simp) W)
        have hadd := HADD.out
        rw [show ([10] : List UInt8).toArray = #[10] from rfl, ← HEND.out] at hadd
        have HBB := Lib.hid HB.out
        obtain ⟨nl, hnl⟩ : ∃ z, ls.length = z := ⟨_, rfl⟩
        rw [hnl] at HJN ⊢
        clear hnl hlen hown hA hl1 hjl hjt HADD HO HB hls
        go_wp2_with fail
        refine HJN.out.mono ?_
        rintro e w9 ⟨rfl, hb9⟩
        have HB9 := Lib.hid (HBB.out.trans (hb9.mono HBB.out.size))
        clear hb9 HJN HBB
        obtain ⟨TJ, hTJ⟩ : ∃ S : ByteArray, ⟨jt.toArray⟩ = S := ⟨_, rfl⟩
        obtain ⟨TX, hTX⟩ : ∃ S : ByteArray, ⟨tx.toArray⟩ = S := ⟨_, rfl⟩
        rw [hTJ, hTX] at hadd
        rw [hTJ]
        have HTXX := Lib.hid hTX
        clear hTJ hTX
        go_wp2
        go_ret2
        exact ⟨by rw [HTXX.out]; rfl, HB9.out⟩
  · have HTF := Lib.hid (show tx = [] from by rw [← HTX0.out, if_neg (by rw [HVE.out]; exact hv)])
    have d0 : ((vE : Int) != 0) = true := by simpa using hv
    have d1 : decide ((vE : Int) = 0) = false := by simpa using hv
    go_wp2_with fail
    go_ret2
    exact ⟨by rw [HTF.out]; rfl, (HB0.out.trans (HB1.out.mono HB0.out.size))⟩
end Go.Proofs.YtcbfchkhbngpkaaGreatDoor
namespace Go.Proofs.YtcbfchkhbngpkaaGreatDoor
open Go.RowKit

end Go.Proofs.YtcbfchkhbngpkaaGreatDoor
namespace Go.Proofs.YtcbfchkhbngpkaaGreatDoor

end Go.Proofs.YtcbfchkhbngpkaaGreatDoor
namespace Go.Proofs.YtcbfchkhbngpkaaGreatDoor
open Go.RowKit

end Go.Proofs.YtcbfchkhbngpkaaGreatDoor
namespace Go.Proofs.YtcbfchkhbngpkaaGreatDoor
open Go.RowKit

end Go.Proofs.YtcbfchkhbngpkaaGreatDoor
namespace Go.Proofs.YtcbfchkhbngpkaaGreatDoor
open Go.RowKit

def hostB (u v : UInt8) : List UInt8 := [10, u, 0, v, 0, 0, 0, 0, 0, 0, 0, 0, 0, 0, 0, 0]
/-- the address 10.x.0.y -/
def hostM (x y : Nat) : AddrM := ⟨false, hostB (UInt8.ofNat x) (UInt8.ofNat y)⟩
theorem ip_built (u v : UInt8) : Tryz.prog.built 51 [(0, .int .u8 10), (1, .int .u8 (u.toNat : Int)), (2, .int .u8 0), (3, .int .u8 (v.toNat : Int))] = some ((hostB u v).map u8v).toArray := by kernel_rfl
theorem addr_built (l : List UInt8) (h : l.length = 16) : Tryz.prog.built 53 [(1, .agg (l.map u8v).toArray)] = some (AddrM.mk false l).cells.toArray := by
  rw [built_of 53 [1, 16] [[.bool false], (List.replicate 16 (0 : UInt8)).map u8v] rfl #[(0, 1), (1, 16)] (fun parts => by kernel_rfl) (fun i h => by
    match i, h with
    | 0, _ => rfl
    | 1, _ => rfl) _ (fun p hp => by
    simp only [List.mem_cons, List.not_mem_nil, or_false] at hp
    subst hp
    simp [Value.cells, h])]
  simp [AddrM.cells, Value.cells]
set_option maxRecDepth 100000 in
set_option maxHeartbeats 2000000 in
theorem caseHost_any (x y : Nat) (w : World) :
    Calls Tryz.prog 38 #[.int .i64 (x : Int), .int .i64 (y : Int)] w fun e w' => e = .returned (.agg (hostM x y).cells.toArray) ∧ Below w.heap.size w w' := by
  rw [hostM]
  have hw1 := codeByte_wrap x
  have hw2 := codeByte_wrap y
  generalize UInt8.ofNat x = u at hw1 ⊢
  generalize UInt8.ofNat y = v at hw2 ⊢
  have hb1 := ip_built u v
  have hb2 := addr_built (hostB u v) rfl
  have hok : (AddrM.mk false (hostB u v)).ok := rfl
  generalize hl : hostB u v = l at hb1 hb2 hok ⊢
  clear hl
  obtain ⟨ci, hci⟩ : ∃ c, (l.map u8v).toArray = c := ⟨_, rfl⟩
  obtain ⟨ca, hca⟩ : ∃ c, (AddrM.mk false l).cells.toArray = c := ⟨_, rfl⟩
  rw [hci] at hb1 hb2
  rw [hca] at hb2 ⊢
  have HB := Lib.hid (And.intro hb1 (And.intro hb2 hca))
  have HO := Lib.hid hok
  have HAL := Lib.hid (AddrM.cells_length HO.out)
  have HCO := Lib.hid (addr_cellsOf _ HO.out)
  clear hb1 hb2 hci hca hok
  have HM := Lib.hid (show Mem w [blkE w.heap.size 53 addr0.cells] (w.alloc (.cells #[.bool false, .int .u8 0, .int .u8 0, .int .u8 0, .int .u8 0, .int .u8 0, .int .u8 0, .int .u8 0, .int .u8 0, .int .u8 0, .int .u8 0, .int .u8 0, .int .u8 0, .int .u8 0, .int .u8 0, .int .u8 0, .int .u8 0] 53)) from (Mem.nil w).alloc rfl 53 #[.bool false, .int .u8 0, .int .u8 0, .int .u8 0, .int .u8 0, .int .u8 0, .int .u8 0, .int .u8 0, .int .u8 0, .int .u8 0, .int .u8 0, .int .u8 0, .int .u8 0, .int .u8 0, .int .u8 0, .int .u8 0, .int .u8 0] addr0.cells rfl)
  go_enter Tryz.func38, Tryz.ntmps38
  go_upto_region 1 with fail
  generalize w.alloc (.cells #[.bool false, .int .u8 0, .int .u8 0, .int .u8 0, .int .u8 0, .int .u8 0, .int .u8 0, .int .u8 0, .int .u8 0, .int .u8 0, .int .u8 0, .int .u8 0, .int .u8 0, .int .u8 0, .int .u8 0, .int .u8 0, .int .u8 0] 53) = w1 at HM ⊢
  go_wp2_with (first | (refine wpList_build_as rfl 51 [(0, .const (.int .u8 10)), (1, .tmp 6), (2, .const (.int .u8 0)), (3, .tmp 8)] rfl ci ?_ ?_; exact HB.out.1) | (refine wpList_build_as rfl 53 [(1, .tmp 9)] rfl ca ?_ ?_; exact HB.out.2.1) | (refine wpList_store_blk rfl 53 (.tmp 4) (.tmp 10) rfl w.heap.size (AddrM.mk false l).cells rfl (by show Value.agg ca = _; rw [HB.out.2.2]) 53 addr0.cells (HM.out.blk 0 rfl) HCO.out (by rw [HAL.out]; rfl) (AddrM.one _) ?_; intro w9 hb9 hg9))
  exact bodyPost_ret (results_obj rfl _ _ w.heap.size 53 (AddrM.mk false l).cells _ rfl hb9 Tryz.underlying53 rfl HCO.out) rfl ⟨by rw [HB.out.2.2], (HM.out.put 0 rfl _ hg9 hb9).bel⟩
end Go.Proofs.YtcbfchkhbngpkaaGreatDoor
namespace Go.Proofs.YtcbfchkhbngpkaaGreatDoor
open Go.RowKit

theorem begun_parse : prefP [49, 48, 46, 48, 46, 48, 46, 49, 47, 56] = ((addr0, 0), 5) := by kernel_rfl
theorem begun_format : prefT (maskM (hostM 0 0) 8) (8 : Int) = [49, 48, 46, 48, 46, 48, 46, 48, 47, 56] := by
  have hv : validM (maskM (hostM 0 0) 8) (8 : Int) = true := by decide +kernel
  have hs : soundM (maskM (hostM 0 0) 8) = true := by decide +kernel
  have h6 : (maskM (hostM 0 0) 8).six = false := rfl
  have e : ((List.range 4).map fun i => decT ((maskM (hostM 0 0) 8).ip.getD i 0).toNat) = [decT 10, decT 0, decT 0, decT 0] := by
    have h0 : ((maskM (hostM 0 0) 8).ip.getD 0 0).toNat = 10 := by decide +kernel
    have h1 : ((maskM (hostM 0 0) 8).ip.getD 1 0).toNat = 0 := by decide +kernel
    have h2 : ((maskM (hostM 0 0) 8).ip.getD 2 0).toNat = 0 := by decide +kernel
    have h3 : ((maskM (hostM 0 0) 8).ip.getD 3 0).toNat = 0 := by decide +kernel
    rw [range4]
    simp only [List.map_cons, List.map_nil, h0, h1, h2, h3]
  rw [prefT, if_neg (by rw [hv]; decide), addrT, if_neg (by rw [hs]; decide), if_neg (by rw [h6]; decide), e, show (8 : Int).toNat = 8 from rfl, show decT 10 = [49, 48] from by rw [decT_big (by omega), decT_small (by omega)]; rfl, show decT 0 = [48] from by rw [decT_small (by omega)]; rfl, show decT 8 = [56] from by rw [decT_small (by omega)]; rfl]
  rfl
set_option maxRecDepth 100000 in
set_option maxHeartbeats 4000000 in
theorem cf_begun_any (HFP : CfFmtPrefC 40) (HPP : CfParsePrefC 39) (w : World) (hlv : LvCf w) : Calls Tryz.prog 13 #[] w fun e w' => e = .returned (.bool true) ∧ Below w.heap.size w w' := by
  have HLV := Lib.hid hlv
  have hok0 : (hostM 0 0).ok := rfl
  have hok : (maskM (hostM 0 0) 8).ok := maskM_ok _ hok0 8
  have HH := Lib.hid (fun W : World => (show Calls Tryz.prog 38 #[.int .i64 0, .int .i64 0] W (fun e w' => e = .returned (.agg (hostM 0 0).cells.toArray) ∧ Below W.heap.size W w') from caseHost_any 0 0 W))
  have HK := Lib.hid (fun W : World => (show Calls Tryz.prog 37 #[.agg (hostM 0 0).cells.toArray, .int .i64 8] W (fun e w' => e = .returned (.agg (prefC (maskM (hostM 0 0) 8) (8 : Int)).toArray) ∧ Below W.heap.size W w') from caseMasked_any (hostM 0 0) hok0 8 (by omega) W))
  have HP := Lib.hid (fun (W : World) (hW : LvCf W) => (show Calls Tryz.prog 39 #[.string ⟨#[49, 48, 46, 48, 46, 48, 46, 49, 47, 56]⟩] W (fun e w' => e = .returned (.tuple #[.agg (prefC addr0 0).toArray, .int .i64 5]) ∧ Below W.heap.size W w') from by
    have h := HPP [49, 48, 46, 48, 46, 48, 46, 49, 47, 56] (by decide) W hW
    rw [begun_parse] at h
    exact h))
  have HF := Lib.hid (fun (W : World) (hW : LvCf W) => (show Calls Tryz.prog 40 #[.agg (prefC (maskM (hostM 0 0) 8) (8 : Int)).toArray] W (fun e w' => e = .returned (.string ⟨#[49, 48, 46, 48, 46, 48, 46, 48, 47, 56]⟩) ∧ Below W.heap.size W w') from by
    have h := HFP (maskM (hostM 0 0) 8) hok 8 (by omega) (by omega) W hW
    rw [begun_format] at h
    exact h))
  have HUP := Lib.hid (pref_cellsOf (maskM (hostM 0 0) 8) hok (8 : Int))
  have HU0 := Lib.hid (pref_cellsOf addr0 addr0_ok 0)
  have HZP := Lib.hid (show (prefC addr0 0).length = (prefC (maskM (hostM 0 0) 8) (8 : Int)).length from (prefC_length addr0 addr0_ok 0).trans (prefC_length _ hok _).symm)
  obtain ⟨ch, hch⟩ : ∃ z, (hostM 0 0).cells.toArray = z := ⟨_, rfl⟩
  obtain ⟨cm, hcm⟩ : ∃ z, (prefC (maskM (hostM 0 0) 8) (8 : Int)).toArray = z := ⟨_, rfl⟩
  obtain ⟨c0, hc0⟩ : ∃ z, (prefC addr0 0).toArray = z := ⟨_, rfl⟩
  rw [hch] at HH HK
  rw [hcm] at HK HF
  rw [hc0] at HP
  have HCM := Lib.hid hcm
  have HC0 := Lib.hid hc0
  have HM := Lib.hid (Mem.nil w)
  clear hch hcm hc0 hok0 hlv
  generalize maskM (hostM 0 0) 8 = mm at HCM HUP HZP
  go_enter Tryz.func13, Tryz.ntmps13
  go_wp2_with fail
  refine (HH.out _).mono ?_
  rintro e w1 ⟨rfl, hb⟩
  replace HM := Lib.hid (HM.out.below hb)
  clear hb HH
  go_wp2_with fail
  refine (HK.out _).mono ?_
  rintro e w2 ⟨rfl, hb⟩
  replace HM := Lib.hid (HM.out.below hb)
  have HMZ := Lib.hid (show Mem w [blkE w2.heap.size 60 (prefC addr0 0)] (w2.alloc (.cells #[.bool false, .int .u8 0, .int .u8 0, .int .u8 0, .int .u8 0, .int .u8 0, .int .u8 0, .int .u8 0, .int .u8 0, .int .u8 0, .int .u8 0, .int .u8 0, .int .u8 0, .int .u8 0, .int .u8 0, .int .u8 0, .int .u8 0, .int .i64 0] 60)) from HM.out.alloc rfl 60 #[.bool false, .int .u8 0, .int .u8 0, .int .u8 0, .int .u8 0, .int .u8 0, .int .u8 0, .int .u8 0, .int .u8 0, .int .u8 0, .int .u8 0, .int .u8 0, .int .u8 0, .int .u8 0, .int .u8 0, .int .u8 0, .int .u8 0, .int .i64 0] (prefC addr0 0) rfl)
  clear hb HK HM
  go_upto_region 2 with (refine wpList_store_blk rfl 60 (.tmp 1) (.tmp 5) rfl w2.heap.size (prefC mm (8 : Int)) rfl (by show Value.agg cm = _; rw [HCM.out]) 60 (prefC addr0 0) (HMZ.out.blk 0 rfl) HUP.out HZP.out (prefC_one _ _) ?_; intro w3 hb3 hg3)
  (try simp only [Act.put])
  have hm3 := HMZ.out.put 0 rfl _ hg3 hb3
  clear hb3 hg3 HMZ
  generalize w2.heap.size = g1 at hm3 ⊢
  have HM := Lib.hid (show Mem w [blkE g1 60 (prefC mm (8 : Int))] w3 from hm3)
  clear hm3
  go_wp2_with fail
  refine (HP.out _ (HLV.out.below HM.out.bel)).mono ?_
  rintro e w4 ⟨rfl, hb⟩
  replace HM := Lib.hid (show Mem w [blkE g1 60 (prefC mm (8 : Int))] w4 from HM.out.below hb)
  have HMZ := Lib.hid (show Mem w [blkE w4.heap.size 60 (prefC addr0 0), blkE g1 60 (prefC mm (8 : Int))] (w4.alloc (.cells #[.bool false, .int .u8 0, .int .u8 0, .int .u8 0, .int .u8 0, .int .u8 0, .int .u8 0, .int .u8 0, .int .u8 0, .int .u8 0, .int .u8 0, .int .u8 0, .int .u8 0, .int .u8 0, .int .u8 0, .int .u8 0, .int .u8 0, .int .i64 0] 60)) from HM.out.alloc rfl 60 #[.bool false, .int .u8 0, .int .u8 0, .int .u8 0, .int .u8 0, .int .u8 0, .int .u8 0, .int .u8 0, .int .u8 0, .int .u8 0, .int .u8 0, .int .u8 0, .int .u8 0, .int .u8 0, .int .u8 0, .int .u8 0, .int .u8 0, .int .i64 0] (prefC addr0 0) rfl)
  clear hb HP HM
  go_upto_region 3 with (refine wpList_store_blk rfl 60 (.tmp 2) (.tmp 8) rfl w4.heap.size (prefC addr0 0) rfl (by show Value.agg c0 = _; rw [HC0.out]) 60 (prefC addr0 0) (HMZ.out.blk 0 rfl) HU0.out rfl (prefC_one _ _) ?_; intro w5 hb5 hg5)
  (try simp only [Act.put])
  have hm5 := HMZ.out.put 0 rfl _ hg5 hb5
  clear hb5 hg5 HMZ
  generalize w4.heap.size = g2 at hm5 ⊢
  have HM := Lib.hid (show Mem w [blkE g2 60 (prefC addr0 0), blkE g1 60 (prefC mm (8 : Int))] w5 from hm5)
  clear hm5
  go_wp2_with (refine wpList_load_obj rfl 60 (.tmp 1) rfl g1 0 rfl (prefC mm (8 : Int)) (HM.out.blk 1 rfl).all _ Tryz.underlying60 rfl HUP.out ?_)
  rw [HCM.out]
  refine (HF.out _ (HLV.out.below HM.out.bel)).mono ?_
  rintro e w6 ⟨rfl, hb⟩
  have HB := Lib.hid (HM.out.below hb).bel
  clear hb HF HM
  go_wp2
  go_ret
  exact ⟨rfl, HB.out⟩
end Go.Proofs.YtcbfchkhbngpkaaGreatDoor
namespace Go.Proofs.YtcbfchkhbngpkaaGreatDoor
open Go.RowKit

end Go.Proofs.YtcbfchkhbngpkaaGreatDoor
namespace Go.Proofs.YtcbfchkhbngpkaaGreatDoor
open Go.RowKit

/-- what is known of a configuration that is tried -/
structure CfGood (y : ConfM) (n d : Nat) : Prop where
  ok : y.ok
  few : n ≤ 20
  al : ∀ p ∈ y.peers, p.al.length ≤ 20
  cap : n ≤ d
def peL (A : Option Addr) (n : Nat) (ps : List PeerM) : Low := ⟨fun W => PeRd W W.heap.size A n ps, fun _ _ hb h => (h.below hb).mono hb.size⟩
def confZ : List Value := (List.replicate 32 (0 : UInt8)).map u8v ++ [.int .i64 0, .slice none 0 0]
theorem confZ_length : confZ.length = 34 := rfl
end Go.Proofs.YtcbfchkhbngpkaaGreatDoor
