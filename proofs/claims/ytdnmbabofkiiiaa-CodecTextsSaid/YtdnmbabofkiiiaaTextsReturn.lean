/-
  CodecTextsReturn returns true for every byte string, key, place and byte, and changes nothing that was there: the walk.
-/
import Derived.Test.YtdnmbabofkiiiaaHexParse
import Derived.Test.YtdnmbabofkiiiaaKeyParse
import Derived.Test.YtdnmbabofkiiiaaRegion
import Derived.Test.YtdnmbabofkiiiaaCase
import Derived.Test.YtdnmbabofkiiiaaBegun
import Derived.Test.YtdnmbabofkiiiaaChanged
namespace Go.Proofs.Ytdnmbabofkiiiaa
open Go.RowKit

theorem size32 {n : Nat} (h : n = 32) : (Try.prog.info? 33).map (·.size) = some n := by rw [h]; exact key_size
theorem parseKey_any (S : ByteArray) (l : List UInt8) (hS : S = ⟨l.toArray⟩) (hn : l.length ≤ 1000000) (w : World) :
    Calls Try.prog 26 #[.string S] w (KeyRes l w) := by
  by_cases h1 : l.length = 44
  · by_cases h2 : l.getD 43 0 = 61
    · exact parseKey_main S l hS h1 h2 w
    · exact parseKey_pad S l hS h1 h2 w
  · exact parseKey_short S l hS hn h1 w

theorem conv_str {w : World} {B n : Nat} {A : Option Addr} {l : List UInt8} (h : Rd w B A n l) (c : Nat) : (convert 23 9 (.slice A n c)).run Try.prog w = .ok (.string ⟨l.toArray⟩) w :=
  run_string_of_rd (P := Try.prog) 23 9 5 c Try.underlying23 Try.underlying5 Try.underlying9 h
/-- the slice whose byte p has been changed to z reads as the changed list -/
theorem rd_changed {w : World} {g n p : Nat} {l t : List UInt8} {z : UInt8} (hc : ∀ j (h : j < l.length), w.cell? ⟨g, j, none⟩ = some (.int .u8 (l[j].toNat : Int))) (hl : l.length = n) (hp : p < l.length) (ht : l.set p z = t) :
    Rd (w.setCell ⟨g, p, none⟩ (.int .u8 (z.toNat : Int))) (g + 1) (some ⟨g, 0, none⟩) n t := by
  subst ht
  refine ⟨by rw [List.length_set, hl], fun _ => ⟨g, 0, rfl, by omega, fun j hj => ?_⟩⟩
  rw [Nat.zero_add]
  have hj' : j < l.length := by simpa using hj
  by_cases e : j = p
  · subst e
    rw [List.getElem_set_self]
    exact World.cell?_setCell_same w ⟨g, j, none⟩ _ (hc j hj')
  · rw [List.getElem_set_ne (by omega), ← hc j hj']
    exact World.cell?_setCell_other w ⟨g, p, none⟩ ⟨g, j, none⟩ _ (fun h => e (by injection h with _ h2; exact h2.symm))
theorem conv_changed {w : World} {g n p : Nat} {l t : List UInt8} {z : UInt8} (hc : ∀ j (h : j < l.length), w.cell? ⟨g, j, none⟩ = some (.int .u8 (l[j].toNat : Int))) (hl : l.length = n) (hp : p < l.length) (ht : l.set p z = t) (c : Nat) :
    (convert 23 9 (.slice (some ⟨g, 0, none⟩) n c)).run Try.prog (w.setCell ⟨g, p, none⟩ (.int .u8 (z.toNat : Int))) = .ok (.string ⟨t.toArray⟩) (w.setCell ⟨g, p, none⟩ (.int .u8 (z.toNat : Int))) := conv_str (rd_changed hc hl hp ht) c
theorem parseHex_back (l : List UInt8) (hn : l.length ≤ 1000) (w : World) :
    Calls Try.prog 24 #[.string ⟨(hexL l).toArray⟩] w fun e w' => ∃ A c, e = .returned (.tuple #[.slice A l.length c, .int .i64 0]) ∧ Rd w' w'.heap.size A l.length l ∧ Below w.heap.size w w' := by
  refine (parseHex_any _ (hexL l) rfl (by rw [hexL_length]; omega) w).mono fun e w' h => ?_
  rcases h with ⟨r, A, c, hp, he, hr, hb⟩ | ⟨hp, _⟩
  · rw [parse_hex] at hp
    injection hp with hp
    subst hp
    exact ⟨A, c, he, hr, hb⟩
  · rw [parse_hex] at hp
    cases hp
theorem parseKey_of (t q : List UInt8) (ht : t.length = 44) (h : parseK t = some q) (w : World) :
    Calls Try.prog 26 #[.string ⟨t.toArray⟩] w fun e w' => e = .returned (.tuple #[.agg (q.map u8v).toArray, .int .i64 0]) ∧ Below w.heap.size w w' := by
  refine (parseKey_any _ t rfl (by omega) w).mono fun e w' h' => ?_
  rcases h' with ⟨r, hp, he, hb⟩ | ⟨hp, _⟩
  · rw [h] at hp
    injection hp with hp
    subst hp
    exact ⟨he, hb⟩
  · rw [h] at hp
    cases hp
theorem parseKey_no (t : List UInt8) (ht : t.length = 44) (h : parseK t = none) (w : World) :
    Calls Try.prog 26 #[.string ⟨t.toArray⟩] w fun e w' => e = .returned (.tuple #[.agg ((List.replicate 32 (0 : UInt8)).map u8v).toArray, .int .i64 5]) ∧ Below w.heap.size w w' := by
  refine (parseKey_any _ t rfl (by omega) w).mono fun e w' h' => ?_
  rcases h' with ⟨r, hp, he, hb⟩ | ⟨hp, he, hb⟩
  · rw [h] at hp
    cases hp
  · exact ⟨he, hb⟩

set_option maxRecDepth 100000 in
set_option maxHeartbeats 2000000 in
theorem textsReturn_walk (w : World) (A : Option Addr) (len cap : Nat) (l : List UInt8) (k : List UInt8) (i y : Nat) (hlc : len ≤ cap) (hcm : cap ≤ maxLen) (hr : Rd w w.heap.size A len l) (hk : k.length = 32) (hi : i ≤ 255) (hy : y ≤ 255) :
    Calls Try.prog 6 #[.slice A len cap, .agg (k.map u8v).toArray, .int .u8 i, .int .u8 y] w fun e w' => e = .returned (.bool true) ∧ Below w.heap.size w w' := by
  obtain ⟨i0, hi0, hz0, hz1, hz2⟩ := info_parts Try.info5
  obtain ⟨ck, hck⟩ : ∃ ck, (k.map u8v).toArray = ck := ⟨_, rfl⟩
  rw [hck]
  have HB0 := Lib.hid (show Blk (w.alloc (.cells ck 33)) w.heap.size 33 (k.map u8v) by rw [← hck]; exact Blk.new w _ _)
  have C1 := Lib.hid (cut_any _ A len cap 60 l hlc hcm (w.alloc (.cells ck 33)) (hr.alloc (Nat.le_refl _) _))
  obtain ⟨N, hN⟩ : ∃ N, min len 60 = N := ⟨_, rfl⟩
  have hN60 : N ≤ 60 := by omega
  obtain ⟨lb, hlb⟩ : ∃ lb, l.take 60 = lb := ⟨_, rfl⟩
  rw [hN, hlb] at C1
  have HCK := Lib.hid hck
  have HK := Lib.hid hk
  clear hr hlc hcm hN hlb hck hk
  go_enter Try.func6, Try.ntmps6
  go_wp2_with fail
  refine C1.out.mono ?_
  rintro e w1 ⟨rfl, hra, rfl⟩
  have hblk := HB0.out
  have hbw0 : Below w.heap.size w (w.alloc (.cells ck 33)) := (Below.refl _ _).alloc (Nat.le_refl _) _
  have hsz0 : w.heap.size + 1 = (w.alloc (.cells ck 33)).heap.size := by simp
  go_wp2_with fail
  generalize w.alloc _ = W0 at hra hblk hbw0 hsz0 ⊢
  refine (hex_any w.heap.size A N cap lb (by omega) _ hra (by omega)).mono ?_
  rintro e w2 ⟨rfl, hb2⟩
  have hN : lb.length = N := hra.1
  go_wp2_with fail
  refine (parseHex_back lb (by omega) _).mono ?_
  rintro e w3 ⟨A3, c3, rfl, hr3, hb3⟩
  rw [hN] at hr3 ⊢
  have hbl := Below.refl W0.heap.size W0
  have b3 := hb2.trans (hb3.mono hb2.size)
  have blk3 := hblk.below b3 hblk.lt
  have HLN := Lib.hid hN
  go_wp2_with (refine wpList_load_blk_g (by rfl) 33 (.tmp 5) rfl w.heap.size rfl 33 (k.map u8v) blk3 32 5 Try.underlying33 (size32 (by rw [List.length_map, HK.out])) ?_)
  refine (text_any k HK.out _ rfl _).mono ?_
  rintro e w4 ⟨rfl, hb4⟩
  go_wp2_with fail
  refine (parseKey_of (textL k) k (textL_length k) (parse_text k HK.out) _).mono ?_
  rintro e w5 ⟨rfl, hb5⟩
  have b5 := (b3.trans (hb4.mono b3.size)).trans (hb5.mono (Nat.le_trans b3.size hb4.size))
  have r5a := ((hra.mono (by omega : w.heap.size ≤ W0.heap.size)).below b5)
  have r5b := (hr3.below hb4).below (hb5.mono hb4.size)
  have blk5 := hblk.below b5 hblk.lt
  have bw5 := hbw0.trans (b5.mono hbw0.size)
  have HB5 := Lib.hid (And.intro r5a (And.intro r5b (And.intro blk5 bw5)))
  have hs35 : w3.heap.size ≤ w5.heap.size := Nat.le_trans hb4.size hb5.size
  have hs05 : W0.heap.size ≤ w5.heap.size := b5.size
  clear hb2 hb3 hb4 hb5 b3 b5 r5a r5b blk5 bw5 blk3 hbl hra hr3 hblk hbw0 hN
  have hp44 : i % 44 < 44 := Nat.mod_lt _ (by omega)
  have d1 : (0 : Int) ≤ (i : Int) % 44 := by omega
  have d2 : (i : Int) % 44 < 44 := by omega
  have hpl : i % 44 < (textL k).length := by rw [textL_length]; exact hp44
  obtain ⟨x, hx⟩ : ∃ x, (textL k)[i % 44] = x := ⟨_, rfl⟩
  have hxor : bits BinOp.xor IntKind.u8 (x.toNat : Int) (y : Int) = ((UInt8.ofNat (x.toNat ^^^ y)).toNat : Int) := by
    rw [u8_xor_nat _ _ x.toNat_lt (by omega), UInt8.toNat_ofNat', Nat.mod_eq_of_lt (Nat.xor_lt_two_pow (n := 8) x.toNat_lt (by omega))]
  obtain ⟨z, hz⟩ : ∃ z, UInt8.ofNat (x.toNat ^^^ y) = z := ⟨_, rfl⟩
  rw [hz] at hxor
  have HX := Lib.hid hx
  have HCH := Lib.hid (changed_eq (textL k) (i % 44) hpl x z y hy hx hz)
  obtain ⟨t, ht⟩ : ∃ t, (textL k).set (i % 44) z = t := ⟨_, rfl⟩
  rw [ht] at HCH
  have HTT := Lib.hid ht
  have HT44 := Lib.hid (show t.length = 44 by rw [← ht, List.length_set, textL_length])
  clear hx hz ht
  have eqk : ∀ w' : World, (Op.equalIn 10000 33 (.agg (k.map u8v).toArray) (.agg (k.map u8v).toArray)).run Try.prog w' = .ok true w' := fun w' => by
    rw [run_key_eq 33 5 32 Try.underlying33 Try.underlying5 i0 hi0 hz1 k k HK.out HK.out, beq_self_eq_true]
  have hTL := textL_length k
  go_wp2_with (first | (refine wpList_store_blk rfl 33 (.tmp 12) (.tmp 30) rfl w5.heap.size (k.map u8v) rfl rfl 33 (zeros 32) (Blk.new w5 33 (zeros 32)) (size32 (by rw [List.length_map, HK.out])) (by simp [HK.out, zeros]) (u8v_one _) ?_; intro w6 hb6 hg6; have b56 := below_blk ((Below.refl w5.heap.size w5).alloc (Nat.le_refl _) _) hg6 (Nat.le_refl _); have cv6a := conv_str ((HB5.out.1.mono hs05).below b56) cap; have cv6b := conv_str ((HB5.out.2.1.mono hs35).below b56) c3; have blk6 := HB5.out.2.2.1.below b56 HB5.out.2.2.1.lt; obtain ⟨cap7, w7, hrun7, hs7, hb7, hc7, hf7⟩ := run_bytes_new (P := Try.prog) w6 9 23 5 (textL k) Try.underlying9 Try.underlying23 Try.underlying5; rw [textL_length] at hrun7; have hcp := hc7 (i % 44) hpl; rw [HX.out] at hcp; have hfp := hf7 (i % 44) hpl; have HC7 := Lib.hid hc7; clear hc7 hf7; have cv8 := conv_changed HC7.out (textL_length k) hpl HTT.out cap7) | (refine wpList_load_blk_g (by rfl) 33 (.tmp 12) rfl w5.heap.size rfl 33 (k.map u8v) hb6 32 5 Try.underlying33 (size32 (by rw [List.length_map, HK.out])) ?_) | (refine wpList_load_blk_g (by rfl) 33 (.tmp 5) rfl w.heap.size rfl 33 (k.map u8v) blk6 32 5 Try.underlying33 (size32 (by rw [List.length_map, HK.out])) ?_))
  have hs8 : w7.heap.size = (w7.setCell ⟨w6.heap.size, i % 44, none⟩ (.int .u8 (z.toNat : Int))).heap.size := by simp [World.setCell]
  have b68 : Below w6.heap.size w6 (w7.setCell ⟨w6.heap.size, i % 44, none⟩ (.int .u8 (z.toNat : Int))) := hb7.setCell (p := ⟨w6.heap.size, i % 44, none⟩) (Nat.le_refl _) _
  rcases hp : parseK t with _ | q
  · obtain ⟨zk, hzk⟩ : ∃ zk : List UInt8, List.replicate 32 0 = zk := ⟨_, rfl⟩
    have HQ := Lib.hid (show zk.length = 32 by rw [← hzk]; rfl)
    have hy0 : ((y : Int) == 0) = false := by
      rw [← HCH.out, beq_eq_false_iff_ne]
      intro e
      rw [← e, parse_text k HK.out] at hp
      cases hp
    have eqz : ∀ w' : World, (Op.equalIn 10000 33 (.agg (zk.map u8v).toArray) (.agg #[.int .u8 0, .int .u8 0, .int .u8 0, .int .u8 0, .int .u8 0, .int .u8 0, .int .u8 0, .int .u8 0, .int .u8 0, .int .u8 0, .int .u8 0, .int .u8 0, .int .u8 0, .int .u8 0, .int .u8 0, .int .u8 0, .int .u8 0, .int .u8 0, .int .u8 0, .int .u8 0, .int .u8 0, .int .u8 0, .int .u8 0, .int .u8 0, .int .u8 0, .int .u8 0, .int .u8 0, .int .u8 0, .int .u8 0, .int .u8 0, .int .u8 0, .int .u8 0])).run Try.prog w' = .ok true w' := fun w' => by
      subst hzk
      exact (run_key_eq 33 5 32 Try.underlying33 Try.underlying5 i0 hi0 hz1 (List.replicate 32 0) (List.replicate 32 0) rfl rfl w').trans (by rw [beq_self_eq_true])
    have PK := parseKey_no t HT44.out hp
    rw [hzk] at PK
    have HPK := Lib.hid PK
    clear PK hzk hp
    refine (HPK.out _).mono ?_
    rintro e w9 ⟨rfl, hb9⟩
    go_wp2_with (refine wpList_store_blk rfl 33 (.tmp 15) (.tmp 70) rfl w9.heap.size (zk.map u8v) rfl rfl 33 (zeros 32) (Blk.new w9 33 (zeros 32)) (size32 (by rw [List.length_map, HQ.out])) (by simp [HQ.out, zeros]) (u8v_one _) ?_; intro w10 hb10 hg10)
    have b910 := below_blk ((Below.refl w9.heap.size w9).alloc (Nat.le_refl _) _) hg10 (Nat.le_refl _)
    have b810 := hb9.trans (b910.mono hb9.size)
    have b610 := b68.trans (b810.mono b68.size)
    have r10 := ((rd_changed HC7.out (textL_length k) hpl HTT.out).mono (by rw [← hs8]; exact Nat.le_of_eq hs7.symm)).below b810
    have k10 := (blk6.below b610 blk6.lt)
    have bw10 := Lib.hid ((HB5.out.2.2.2.trans (b56.mono HB5.out.2.2.2.size)).trans (b610.mono (Nat.le_trans HB5.out.2.2.2.size b56.size)))
    have cvT : ∀ w' : World, Below w10.heap.size w10 w' → (convert 23 9 (.slice (some ⟨w6.heap.size, 0, none⟩) 44 cap7)).run Try.prog w' = .ok (.string ⟨t.toArray⟩) w' := fun w' hb => conv_str ((r10.mono b810.size).below hb) cap7
    have K10 := Lib.hid k10
    have Q10 := Lib.hid hb10
    clear b910 b810 b610 r10 k10 hb10 hg10 hb9 b68 hs8 hs7 hb7 hrun7 hcp hfp cv8 cv6a cv6b blk6 b56 hb6 hg6 eqk hxor
    refine wp_region_held_drew (S := fun w' => Below w10.heap.size w10 w') (by kernel_rfl) ((Below.refl w10.heap.size w10).drew) (fun hHeld => ?_)
    refine take_first (v := ?_) 0 rfl (by kernel_rfl) (by kernel_rfl) (by kernel_rfl) (fun _ _ _ h => h) (Or.inl ⟨by rfl, ?_⟩) (by assumption) ?_
    rotate_left
    · (intro w hSw; (try dsimp only at hSw); go_simp; try with_reducible rfl)
    (try simp only [Act.put, List.setIfInBounds_toArray, List.set_cons_zero, List.set_cons_succ])
    refine take_first (v := ?_) 1 rfl (by kernel_rfl) (by kernel_rfl) (by kernel_rfl) (fun _ _ _ h => h) (Or.inl ⟨by rfl, ?_⟩) (by assumption) ?_
    rotate_left
    · (intro w hSw; (try dsimp only at hSw); go_simp; try with_reducible rfl)
    (try simp only [Act.put, List.setIfInBounds_toArray, List.set_cons_zero, List.set_cons_succ])
    refine take_first (v := ?_) 2 rfl (by kernel_rfl) (by kernel_rfl) (by kernel_rfl) (fun _ _ _ h => h) (Or.inl ⟨by rfl, ?_⟩) (by assumption) ?_
    rotate_left
    · (intro w hSw; (try dsimp only at hSw); go_simp; try with_reducible rfl)
    (try simp only [Act.put, List.setIfInBounds_toArray, List.set_cons_zero, List.set_cons_succ])
    refine take_first (v := undef) 3 rfl (by kernel_rfl) (by kernel_rfl) (by kernel_rfl) (fun _ _ _ h => h) (Or.inr ⟨by rfl, rfl⟩) (by assumption) ?_
    (try simp only [Act.put, List.setIfInBounds_toArray, List.set_cons_zero, List.set_cons_succ])
    refine take_first (v := undef) 4 rfl (by kernel_rfl) (by kernel_rfl) (by kernel_rfl) (fun _ _ _ h => h) (Or.inr ⟨by rfl, rfl⟩) (by assumption) ?_
    (try simp only [Act.put, List.setIfInBounds_toArray, List.set_cons_zero, List.set_cons_succ])
    refine take_first (v := undef) 5 rfl (by kernel_rfl) (by kernel_rfl) (by kernel_rfl) (fun _ _ _ h => h) (Or.inr ⟨by rfl, rfl⟩) (by assumption) ?_
    (try simp only [Act.put, List.setIfInBounds_toArray, List.set_cons_zero, List.set_cons_succ])
    refine take_first (v := undef) 6 rfl (by kernel_rfl) (by kernel_rfl) (by kernel_rfl) (fun _ _ _ h => h) (Or.inr ⟨by rfl, rfl⟩) (by assumption) ?_
    (try simp only [Act.put, List.setIfInBounds_toArray, List.set_cons_zero, List.set_cons_succ])
    refine take_first (v := undef) 7 rfl (by kernel_rfl) (by kernel_rfl) (by kernel_rfl) (fun _ _ _ h => h) (Or.inr ⟨by rfl, rfl⟩) (by assumption) ?_
    (try simp only [Act.put, List.setIfInBounds_toArray, List.set_cons_zero, List.set_cons_succ])
    refine take_first (v := ?_) 8 rfl (by kernel_rfl) (by kernel_rfl) (by kernel_rfl) (fun _ _ _ h => h) (Or.inl ⟨by rfl, ?_⟩) (by assumption) ?_
    rotate_left
    · (intro w hSw; (try dsimp only at hSw); go_simp; try with_reducible rfl)
    (try simp only [Act.put, List.setIfInBounds_toArray, List.set_cons_zero, List.set_cons_succ])
    refine take_first (v := ?_) 9 rfl (by kernel_rfl) (by kernel_rfl) (by kernel_rfl) (fun _ _ _ h => h) (Or.inl ⟨by rfl, ?_⟩) (by assumption) ?_
    rotate_left
    · (intro w hSw; (try dsimp only at hSw); go_simp; try with_reducible rfl)
    (try simp only [Act.put, List.setIfInBounds_toArray, List.set_cons_zero, List.set_cons_succ])
    refine take_first (v := ?_) 10 rfl (by kernel_rfl) (by kernel_rfl) (by kernel_rfl) (fun _ _ _ h => h) (Or.inl ⟨by rfl, ?_⟩) (by assumption) ?_
    rotate_left
    · (intro w hSw; (try dsimp only at hSw); go_simp; try with_reducible rfl)
    (try simp only [Act.put, List.setIfInBounds_toArray, List.set_cons_zero, List.set_cons_succ])
    refine take_first (v := ?_) 11 rfl (by kernel_rfl) (by kernel_rfl) (by kernel_rfl) (fun _ _ _ h => h) (Or.inl ⟨by rfl, ?_⟩) (by assumption) ?_
    rotate_left
    · (intro w hSw; (try dsimp only at hSw); go_simp; try with_reducible rfl)
    (try simp only [Act.put, List.setIfInBounds_toArray, List.set_cons_zero, List.set_cons_succ])
    refine take_first (v := ?_) 12 rfl (by kernel_rfl) (by kernel_rfl) (by kernel_rfl) (fun _ _ _ h => h) (Or.inl ⟨by rfl, ?_⟩) (by assumption) ?_
    rotate_left
    · (intro w hSw; (try dsimp only at hSw); go_simp; try with_reducible rfl)
    (try simp only [Act.put, List.setIfInBounds_toArray, List.set_cons_zero, List.set_cons_succ])
    refine take_first (v := .agg (zk.map u8v).toArray) 13 rfl (by kernel_rfl) (by kernel_rfl) (by kernel_rfl) (fun _ _ _ h => h) (yields_load_blk (by rfl) 33 (.tmp 15) rfl w9.heap.size rfl 33 (zk.map u8v) (fun w' hb => Q10.out.below hb Q10.out.lt) 32 5 Try.underlying33 (size32 (by rw [List.length_map, HQ.out]))) (by assumption) ?_
    (try simp only [Act.put, List.setIfInBounds_toArray, List.set_cons_zero, List.set_cons_succ])
    refine take_first (v := ?_) 14 rfl (by kernel_rfl) (by kernel_rfl) (by kernel_rfl) (fun _ _ _ h => h) (Or.inl ⟨by rfl, ?_⟩) (by assumption) ?_
    rotate_left
    · (intro w hSw; (try dsimp only at hSw); go_simp; try with_reducible rfl)
    (try simp only [Act.put, List.setIfInBounds_toArray, List.set_cons_zero, List.set_cons_succ])
    refine take_first (v := ?_) 15 rfl (by kernel_rfl) (by kernel_rfl) (by kernel_rfl) (fun _ _ _ h => h) (Or.inl ⟨by rfl, ?_⟩) (by assumption) ?_
    rotate_left
    · (intro w hSw; (try dsimp only at hSw); go_simp; try with_reducible rfl)
    (try simp only [Act.put, List.setIfInBounds_toArray, List.set_cons_zero, List.set_cons_succ])
    refine take_first (v := ?_) 16 rfl (by kernel_rfl) (by kernel_rfl) (by kernel_rfl) (fun _ _ _ h => h) (Or.inl ⟨by rfl, ?_⟩) (by assumption) ?_
    rotate_left
    · (intro w hSw; (try dsimp only at hSw); go_simp; try with_reducible rfl)
    (try simp only [Act.put, List.setIfInBounds_toArray, List.set_cons_zero, List.set_cons_succ])
    refine take_first (v := ?_) 17 rfl (by kernel_rfl) (by kernel_rfl) (by kernel_rfl) (fun _ _ _ h => h) (Or.inl ⟨by rfl, ?_⟩) (by assumption) ?_
    rotate_left
    · (intro w hSw; (try dsimp only at hSw); go_simp; try with_reducible rfl)
    (try simp only [Act.put, List.setIfInBounds_toArray, List.set_cons_zero, List.set_cons_succ])
    refine take_first (v := ?_) 18 rfl (by kernel_rfl) (by kernel_rfl) (by kernel_rfl) (fun _ _ _ h => h) (Or.inl ⟨by rfl, ?_⟩) (by assumption) ?_
    rotate_left
    · (intro w hSw; (try dsimp only at hSw); go_simp; try with_reducible rfl)
    (try simp only [Act.put, List.setIfInBounds_toArray, List.set_cons_zero, List.set_cons_succ])
    refine take_first (v := ?_) 19 rfl (by kernel_rfl) (by kernel_rfl) (by kernel_rfl) (fun _ _ _ h => h) (Or.inl ⟨by rfl, ?_⟩) (by assumption) ?_
    rotate_left
    · (intro w hSw; (try dsimp only at hSw); go_simp; try with_reducible rfl)
    (try simp only [Act.put, List.setIfInBounds_toArray, List.set_cons_zero, List.set_cons_succ])
    refine take_first (v := ?_) 20 rfl (by kernel_rfl) (by kernel_rfl) (by kernel_rfl) (fun _ _ _ h => h) (Or.inl ⟨by rfl, ?_⟩) (by assumption) ?_
    rotate_left
    · (intro w hSw; (try dsimp only at hSw); go_simp; try with_reducible rfl)
    (try simp only [Act.put, List.setIfInBounds_toArray, List.set_cons_zero, List.set_cons_succ])
    refine take_first (v := ?_) 21 rfl (by kernel_rfl) (by kernel_rfl) (by kernel_rfl) (fun _ _ _ h => h) (Or.inl ⟨by rfl, ?_⟩) (by assumption) ?_
    rotate_left
    · (intro w hSw; (try dsimp only at hSw); go_simp; try with_reducible rfl)
    (try simp only [Act.put, List.setIfInBounds_toArray, List.set_cons_zero, List.set_cons_succ])
    refine take_first (v := ?_) 22 rfl (by kernel_rfl) (by kernel_rfl) (by kernel_rfl) (fun _ _ _ h => h) (Or.inl ⟨by rfl, ?_⟩) (by assumption) ?_
    rotate_left
    · (intro w hSw; (try dsimp only at hSw); go_simp; try with_reducible rfl)
    (try simp only [Act.put, List.setIfInBounds_toArray, List.set_cons_zero, List.set_cons_succ])
    refine take_first (v := ?_) 23 rfl (by kernel_rfl) (by kernel_rfl) (by kernel_rfl) (fun _ _ _ h => h) (Or.inl ⟨by rfl, ?_⟩) (by assumption) ?_
    rotate_left
    · (intro w hSw; (try dsimp only at hSw); go_simp; try with_reducible rfl)
    (try simp only [Act.put, List.setIfInBounds_toArray, List.set_cons_zero, List.set_cons_succ])
    refine take_first (v := undef) 24 rfl (by kernel_rfl) (by kernel_rfl) (by kernel_rfl) (fun _ _ _ h => h) (Or.inr ⟨by rfl, rfl⟩) (by assumption) ?_
    (try simp only [Act.put, List.setIfInBounds_toArray, List.set_cons_zero, List.set_cons_succ])
    refine take_first (v := undef) 25 rfl (by kernel_rfl) (by kernel_rfl) (by kernel_rfl) (fun _ _ _ h => h) (Or.inr ⟨by rfl, rfl⟩) (by assumption) ?_
    (try simp only [Act.put, List.setIfInBounds_toArray, List.set_cons_zero, List.set_cons_succ])
    refine take_first (v := undef) 26 rfl (by kernel_rfl) (by kernel_rfl) (by kernel_rfl) (fun _ _ _ h => h) (Or.inr ⟨by rfl, rfl⟩) (by assumption) ?_
    (try simp only [Act.put, List.setIfInBounds_toArray, List.set_cons_zero, List.set_cons_succ])
    refine take_first (v := ?_) 27 rfl (by kernel_rfl) (by kernel_rfl) (by kernel_rfl) (fun _ _ _ h => h) (Or.inl ⟨by rfl, ?_⟩) (by assumption) ?_
    rotate_left
    · (intro w hSw; (try dsimp only at hSw); go_simp; try with_reducible rfl)
    (try simp only [Act.put, List.setIfInBounds_toArray, List.set_cons_zero, List.set_cons_succ])
    refine take_first (v := ?_) 28 rfl (by kernel_rfl) (by kernel_rfl) (by kernel_rfl) (fun _ _ _ h => h) (Or.inl ⟨by rfl, ?_⟩) (by assumption) ?_
    rotate_left
    · (intro w hSw; (try dsimp only at hSw); go_simp; try with_reducible rfl)
    (try simp only [Act.put, List.setIfInBounds_toArray, List.set_cons_zero, List.set_cons_succ])
    refine take_first (v := ?_) 29 rfl (by kernel_rfl) (by kernel_rfl) (by kernel_rfl) (fun _ _ _ h => h) (Or.inl ⟨by rfl, ?_⟩) (by assumption) ?_
    rotate_left
    · (intro w hSw; (try dsimp only at hSw); go_simp; try with_reducible rfl)
    (try simp only [Act.put, List.setIfInBounds_toArray, List.set_cons_zero, List.set_cons_succ])
    refine take_first (v := ?_) 30 rfl (by kernel_rfl) (by kernel_rfl) (by kernel_rfl) (fun _ _ _ h => h) (Or.inl ⟨by rfl, ?_⟩) (by assumption) ?_
    rotate_left
    · (intro w hSw; (try dsimp only at hSw); go_simp; try with_reducible rfl)
    (try simp only [Act.put, List.setIfInBounds_toArray, List.set_cons_zero, List.set_cons_succ])
    refine step_one 31 rfl (by kernel_rfl) (fun K hK => ?_)
    go_simp
    refine (begun_any _).mono ?_
    rintro e w12 ⟨rfl, hb12⟩
    go_wp2_with fail
    refine hK.out _ _ (hHeld.trans (hb12.mono hHeld.size)) (fun hHeld => ?_)
    clear hK K
    (try simp only [Act.put, List.setIfInBounds_toArray, List.set_cons_zero, List.set_cons_succ])
    refine take_first (v := ?_) 32 rfl (by kernel_rfl) (by kernel_rfl) (by kernel_rfl) (fun _ _ _ h => h) (Or.inl ⟨by rfl, ?_⟩) (by assumption) ?_
    rotate_left
    · (intro w hSw; (try dsimp only at hSw); go_simp; try with_reducible rfl)
    (try simp only [Act.put, List.setIfInBounds_toArray, List.set_cons_zero, List.set_cons_succ])
    refine take_first (v := ?_) 33 rfl (by kernel_rfl) (by kernel_rfl) (by kernel_rfl) (fun _ _ _ h => h) (Or.inl ⟨by rfl, ?_⟩) (by assumption) ?_
    rotate_left
    · (intro w hSw; (try dsimp only at hSw); go_simp; try with_reducible rfl)
    (try simp only [Act.put, List.setIfInBounds_toArray, List.set_cons_zero, List.set_cons_succ])
    refine wpAnyH_done (by kernel_rfl) ?_ _
    have HEND := Lib.hid (bw10.out.trans (hHeld.mono bw10.out.size))
    clear hHeld cvT
    go_wp2
    go_ret
    exact ⟨rfl, HEND.out⟩
  · obtain ⟨hq32, htq⟩ := text_parse t q hp
    have HQ := Lib.hid hq32
    have HTQ := Lib.hid htq
    have hqk : (q == k) = ((y : Int) == 0) := by
      rw [← HCH.out, Bool.eq_iff_iff, beq_iff_eq, beq_iff_eq]
      constructor
      · intro e
        rw [← e, htq]
      · intro e
        rw [← e, parse_text k HK.out] at hp
        injection hp with hp
        exact hp.symm
    have eqq : ∀ w' : World, (Op.equalIn 10000 33 (.agg (q.map u8v).toArray) (.agg (k.map u8v).toArray)).run Try.prog w' = .ok ((y : Int) == 0) w' := fun w' => by
      rw [run_key_eq 33 5 32 Try.underlying33 Try.underlying5 i0 hi0 hz1 q k HQ.out HK.out, hqk]
    have HPK := Lib.hid (parseKey_of t q HT44.out hp)
    clear hp hq32 htq hqk
    refine (HPK.out _).mono ?_
    rintro e w9 ⟨rfl, hb9⟩
    go_wp2_with (refine wpList_store_blk rfl 33 (.tmp 15) (.tmp 70) rfl w9.heap.size (q.map u8v) rfl rfl 33 (zeros 32) (Blk.new w9 33 (zeros 32)) (size32 (by rw [List.length_map, HQ.out])) (by simp [HQ.out, zeros]) (u8v_one _) ?_; intro w10 hb10 hg10)
    have b910 := below_blk ((Below.refl w9.heap.size w9).alloc (Nat.le_refl _) _) hg10 (Nat.le_refl _)
    have b810 := hb9.trans (b910.mono hb9.size)
    have b610 := b68.trans (b810.mono b68.size)
    have r10 := ((rd_changed HC7.out (textL_length k) hpl HTT.out).mono (by rw [← hs8]; exact Nat.le_of_eq hs7.symm)).below b810
    have k10 := (blk6.below b610 blk6.lt)
    have bw10 := Lib.hid ((HB5.out.2.2.2.trans (b56.mono HB5.out.2.2.2.size)).trans (b610.mono (Nat.le_trans HB5.out.2.2.2.size b56.size)))
    have cvT : ∀ w' : World, Below w10.heap.size w10 w' → (convert 23 9 (.slice (some ⟨w6.heap.size, 0, none⟩) 44 cap7)).run Try.prog w' = .ok (.string ⟨t.toArray⟩) w' := fun w' hb => conv_str ((r10.mono b810.size).below hb) cap7
    have K10 := Lib.hid k10
    have Q10 := Lib.hid hb10
    clear b910 b810 b610 r10 k10 hb10 hg10 hb9 b68 hs8 hs7 hb7 hrun7 hcp hfp cv8 cv6a cv6b blk6 b56 hb6 hg6 eqk hxor
    refine wp_region_held_drew (S := fun w' => Below w10.heap.size w10 w') (by kernel_rfl) ((Below.refl w10.heap.size w10).drew) (fun hHeld => ?_)
    refine take_first (v := ?_) 0 rfl (by kernel_rfl) (by kernel_rfl) (by kernel_rfl) (fun _ _ _ h => h) (Or.inl ⟨by rfl, ?_⟩) (by assumption) ?_
    rotate_left
    · (intro w hSw; (try dsimp only at hSw); go_simp; try with_reducible rfl)
    (try simp only [Act.put, List.setIfInBounds_toArray, List.set_cons_zero, List.set_cons_succ])
    refine take_first (v := ?_) 1 rfl (by kernel_rfl) (by kernel_rfl) (by kernel_rfl) (fun _ _ _ h => h) (Or.inl ⟨by rfl, ?_⟩) (by assumption) ?_
    rotate_left
    · (intro w hSw; (try dsimp only at hSw); go_simp; try with_reducible rfl)
    (try simp only [Act.put, List.setIfInBounds_toArray, List.set_cons_zero, List.set_cons_succ])
    refine take_first (v := ?_) 2 rfl (by kernel_rfl) (by kernel_rfl) (by kernel_rfl) (fun _ _ _ h => h) (Or.inl ⟨by rfl, ?_⟩) (by assumption) ?_
    rotate_left
    · (intro w hSw; (try dsimp only at hSw); go_simp; try with_reducible rfl)
    (try simp only [Act.put, List.setIfInBounds_toArray, List.set_cons_zero, List.set_cons_succ])
    refine take_first (v := .agg (q.map u8v).toArray) 3 rfl (by kernel_rfl) (by kernel_rfl) (by kernel_rfl) (fun _ _ _ h => h) (yields_load_blk (by rfl) 33 (.tmp 15) rfl w9.heap.size rfl 33 (q.map u8v) (fun w' hb => Q10.out.below hb Q10.out.lt) 32 5 Try.underlying33 (size32 (by rw [List.length_map, HQ.out]))) (by assumption) ?_
    (try simp only [Act.put, List.setIfInBounds_toArray, List.set_cons_zero, List.set_cons_succ])
    refine take_first (v := ?_) 5 rfl (by kernel_rfl) (by kernel_rfl) (by kernel_rfl) (fun _ _ _ h => h) (Or.inl ⟨by rfl, ?_⟩) (by assumption) ?_
    rotate_left
    · (intro w hSw; (try dsimp only at hSw); go_simp; try with_reducible rfl)
    (try simp only [Act.put, List.setIfInBounds_toArray, List.set_cons_zero, List.set_cons_succ])
    refine take_first (v := ?_) 6 rfl (by kernel_rfl) (by kernel_rfl) (by kernel_rfl) (fun _ _ _ h => h) (Or.inl ⟨by rfl, ?_⟩) (by assumption) ?_
    rotate_left
    · (intro w hSw; (try dsimp only at hSw); go_simp; try with_reducible rfl)
    (try simp only [Act.put, List.setIfInBounds_toArray, List.set_cons_zero, List.set_cons_succ])
    refine step_one 4 rfl (by kernel_rfl) (fun K hK => ?_)
    go_simp
    refine (text_any q HQ.out _ rfl _).mono ?_
    rintro e w11 ⟨rfl, hb11⟩
    rw [HTQ.out]
    go_wp2_with fail
    refine hK.out _ _ (hHeld.trans (hb11.mono hHeld.size)) (fun hHeld => ?_)
    clear hK K
    (try simp only [Act.put, List.setIfInBounds_toArray, List.set_cons_zero, List.set_cons_succ])
    refine take_first (v := ?_) 7 rfl (by kernel_rfl) (by kernel_rfl) (by kernel_rfl) (fun _ _ _ h => h) (Or.inl ⟨by rfl, ?_⟩) (by assumption) ?_
    rotate_left
    · (intro w hSw; (try dsimp only at hSw); go_simp; try with_reducible rfl)
    (try simp only [Act.put, List.setIfInBounds_toArray, List.set_cons_zero, List.set_cons_succ])
    refine take_first (v := ?_) 8 rfl (by kernel_rfl) (by kernel_rfl) (by kernel_rfl) (fun _ _ _ h => h) (Or.inl ⟨by rfl, ?_⟩) (by assumption) ?_
    rotate_left
    · (intro w hSw; (try dsimp only at hSw); go_simp; try with_reducible rfl)
    (try simp only [Act.put, List.setIfInBounds_toArray, List.set_cons_zero, List.set_cons_succ])
    refine take_first (v := ?_) 9 rfl (by kernel_rfl) (by kernel_rfl) (by kernel_rfl) (fun _ _ _ h => h) (Or.inl ⟨by rfl, ?_⟩) (by assumption) ?_
    rotate_left
    · (intro w hSw; (try dsimp only at hSw); go_simp; try with_reducible rfl)
    (try simp only [Act.put, List.setIfInBounds_toArray, List.set_cons_zero, List.set_cons_succ])
    refine take_first (v := undef) 10 rfl (by kernel_rfl) (by kernel_rfl) (by kernel_rfl) (fun _ _ _ h => h) (Or.inr ⟨by rfl, rfl⟩) (by assumption) ?_
    (try simp only [Act.put, List.setIfInBounds_toArray, List.set_cons_zero, List.set_cons_succ])
    refine take_first (v := undef) 11 rfl (by kernel_rfl) (by kernel_rfl) (by kernel_rfl) (fun _ _ _ h => h) (Or.inr ⟨by rfl, rfl⟩) (by assumption) ?_
    (try simp only [Act.put, List.setIfInBounds_toArray, List.set_cons_zero, List.set_cons_succ])
    refine take_first (v := undef) 12 rfl (by kernel_rfl) (by kernel_rfl) (by kernel_rfl) (fun _ _ _ h => h) (Or.inr ⟨by rfl, rfl⟩) (by assumption) ?_
    (try simp only [Act.put, List.setIfInBounds_toArray, List.set_cons_zero, List.set_cons_succ])
    refine take_first (v := undef) 13 rfl (by kernel_rfl) (by kernel_rfl) (by kernel_rfl) (fun _ _ _ h => h) (Or.inr ⟨by rfl, rfl⟩) (by assumption) ?_
    (try simp only [Act.put, List.setIfInBounds_toArray, List.set_cons_zero, List.set_cons_succ])
    refine take_first (v := undef) 14 rfl (by kernel_rfl) (by kernel_rfl) (by kernel_rfl) (fun _ _ _ h => h) (Or.inr ⟨by rfl, rfl⟩) (by assumption) ?_
    (try simp only [Act.put, List.setIfInBounds_toArray, List.set_cons_zero, List.set_cons_succ])
    refine take_first (v := undef) 15 rfl (by kernel_rfl) (by kernel_rfl) (by kernel_rfl) (fun _ _ _ h => h) (Or.inr ⟨by rfl, rfl⟩) (by assumption) ?_
    (try simp only [Act.put, List.setIfInBounds_toArray, List.set_cons_zero, List.set_cons_succ])
    refine take_first (v := undef) 16 rfl (by kernel_rfl) (by kernel_rfl) (by kernel_rfl) (fun _ _ _ h => h) (Or.inr ⟨by rfl, rfl⟩) (by assumption) ?_
    (try simp only [Act.put, List.setIfInBounds_toArray, List.set_cons_zero, List.set_cons_succ])
    refine take_first (v := ?_) 17 rfl (by kernel_rfl) (by kernel_rfl) (by kernel_rfl) (fun _ _ _ h => h) (Or.inl ⟨by rfl, ?_⟩) (by assumption) ?_
    rotate_left
    · (intro w hSw; (try dsimp only at hSw); go_simp; try with_reducible rfl)
    (try simp only [Act.put, List.setIfInBounds_toArray, List.set_cons_zero, List.set_cons_succ])
    refine take_first (v := ?_) 18 rfl (by kernel_rfl) (by kernel_rfl) (by kernel_rfl) (fun _ _ _ h => h) (Or.inl ⟨by rfl, ?_⟩) (by assumption) ?_
    rotate_left
    · (intro w hSw; (try dsimp only at hSw); go_simp; try with_reducible rfl)
    (try simp only [Act.put, List.setIfInBounds_toArray, List.set_cons_zero, List.set_cons_succ])
    refine take_first (v := ?_) 19 rfl (by kernel_rfl) (by kernel_rfl) (by kernel_rfl) (fun _ _ _ h => h) (Or.inl ⟨by rfl, ?_⟩) (by assumption) ?_
    rotate_left
    · (intro w hSw; (try dsimp only at hSw); go_simp; try with_reducible rfl)
    (try simp only [Act.put, List.setIfInBounds_toArray, List.set_cons_zero, List.set_cons_succ])
    refine take_first (v := ?_) 20 rfl (by kernel_rfl) (by kernel_rfl) (by kernel_rfl) (fun _ _ _ h => h) (Or.inl ⟨by rfl, ?_⟩) (by assumption) ?_
    rotate_left
    · (intro w hSw; (try dsimp only at hSw); go_simp; try with_reducible rfl)
    (try simp only [Act.put, List.setIfInBounds_toArray, List.set_cons_zero, List.set_cons_succ])
    refine take_first (v := ?_) 21 rfl (by kernel_rfl) (by kernel_rfl) (by kernel_rfl) (fun _ _ _ h => h) (Or.inl ⟨by rfl, ?_⟩) (by assumption) ?_
    rotate_left
    · (intro w hSw; (try dsimp only at hSw); go_simp; try with_reducible rfl)
    (try simp only [Act.put, List.setIfInBounds_toArray, List.set_cons_zero, List.set_cons_succ])
    refine take_first (v := ?_) 22 rfl (by kernel_rfl) (by kernel_rfl) (by kernel_rfl) (fun _ _ _ h => h) (Or.inl ⟨by rfl, ?_⟩) (by assumption) ?_
    rotate_left
    · (intro w hSw; (try dsimp only at hSw); go_simp; try with_reducible rfl)
    (try simp only [Act.put, List.setIfInBounds_toArray, List.set_cons_zero, List.set_cons_succ])
    refine take_first (v := ?_) 23 rfl (by kernel_rfl) (by kernel_rfl) (by kernel_rfl) (fun _ _ _ h => h) (Or.inl ⟨by rfl, ?_⟩) (by assumption) ?_
    rotate_left
    · (intro w hSw; (try dsimp only at hSw); go_simp; try with_reducible rfl)
    (try simp only [Act.put, List.setIfInBounds_toArray, List.set_cons_zero, List.set_cons_succ])
    refine take_first (v := .agg (q.map u8v).toArray) 24 rfl (by kernel_rfl) (by kernel_rfl) (by kernel_rfl) (fun _ _ _ h => h) (yields_load_blk (by rfl) 33 (.tmp 15) rfl w9.heap.size rfl 33 (q.map u8v) (fun w' hb => Q10.out.below hb Q10.out.lt) 32 5 Try.underlying33 (size32 (by rw [List.length_map, HQ.out]))) (by assumption) ?_
    (try simp only [Act.put, List.setIfInBounds_toArray, List.set_cons_zero, List.set_cons_succ])
    refine take_first (v := .agg (k.map u8v).toArray) 25 rfl (by kernel_rfl) (by kernel_rfl) (by kernel_rfl) (fun _ _ _ h => h) (yields_load_blk (by rfl) 33 (.tmp 5) rfl w.heap.size rfl 33 (k.map u8v) (fun w' hb => K10.out.below hb K10.out.lt) 32 5 Try.underlying33 (size32 (by rw [List.length_map, HK.out]))) (by assumption) ?_
    (try simp only [Act.put, List.setIfInBounds_toArray, List.set_cons_zero, List.set_cons_succ])
    refine take_first (v := ?_) 26 rfl (by kernel_rfl) (by kernel_rfl) (by kernel_rfl) (fun _ _ _ h => h) (Or.inl ⟨by rfl, ?_⟩) (by assumption) ?_
    rotate_left
    · (intro w hSw; (try dsimp only at hSw); go_simp; try with_reducible rfl)
    (try simp only [Act.put, List.setIfInBounds_toArray, List.set_cons_zero, List.set_cons_succ])
    refine take_first (v := ?_) 27 rfl (by kernel_rfl) (by kernel_rfl) (by kernel_rfl) (fun _ _ _ h => h) (Or.inl ⟨by rfl, ?_⟩) (by assumption) ?_
    rotate_left
    · (intro w hSw; (try dsimp only at hSw); go_simp; try with_reducible rfl)
    (try simp only [Act.put, List.setIfInBounds_toArray, List.set_cons_zero, List.set_cons_succ])
    refine take_first (v := ?_) 28 rfl (by kernel_rfl) (by kernel_rfl) (by kernel_rfl) (fun _ _ _ h => h) (Or.inl ⟨by rfl, ?_⟩) (by assumption) ?_
    rotate_left
    · (intro w hSw; (try dsimp only at hSw); go_simp; try with_reducible rfl)
    (try simp only [Act.put, List.setIfInBounds_toArray, List.set_cons_zero, List.set_cons_succ])
    refine take_first (v := ?_) 29 rfl (by kernel_rfl) (by kernel_rfl) (by kernel_rfl) (fun _ _ _ h => h) (Or.inl ⟨by rfl, ?_⟩) (by assumption) ?_
    rotate_left
    · (intro w hSw; (try dsimp only at hSw); go_simp; try with_reducible rfl)
    (try simp only [Act.put, List.setIfInBounds_toArray, List.set_cons_zero, List.set_cons_succ])
    refine take_first (v := ?_) 30 rfl (by kernel_rfl) (by kernel_rfl) (by kernel_rfl) (fun _ _ _ h => h) (Or.inl ⟨by rfl, ?_⟩) (by assumption) ?_
    rotate_left
    · (intro w hSw; (try dsimp only at hSw); go_simp; try with_reducible rfl)
    (try simp only [Act.put, List.setIfInBounds_toArray, List.set_cons_zero, List.set_cons_succ])
    refine step_one 31 rfl (by kernel_rfl) (fun K hK => ?_)
    go_simp
    refine (begun_any _).mono ?_
    rintro e w12 ⟨rfl, hb12⟩
    go_wp2_with fail
    refine hK.out _ _ (hHeld.trans (hb12.mono hHeld.size)) (fun hHeld => ?_)
    clear hK K
    (try simp only [Act.put, List.setIfInBounds_toArray, List.set_cons_zero, List.set_cons_succ])
    refine take_first (v := ?_) 32 rfl (by kernel_rfl) (by kernel_rfl) (by kernel_rfl) (fun _ _ _ h => h) (Or.inl ⟨by rfl, ?_⟩) (by assumption) ?_
    rotate_left
    · (intro w hSw; (try dsimp only at hSw); go_simp; try with_reducible rfl)
    (try simp only [Act.put, List.setIfInBounds_toArray, List.set_cons_zero, List.set_cons_succ])
    refine take_first (v := ?_) 33 rfl (by kernel_rfl) (by kernel_rfl) (by kernel_rfl) (fun _ _ _ h => h) (Or.inl ⟨by rfl, ?_⟩) (by assumption) ?_
    rotate_left
    · (intro w hSw; (try dsimp only at hSw); go_simp; try with_reducible rfl)
    (try simp only [Act.put, List.setIfInBounds_toArray, List.set_cons_zero, List.set_cons_succ])
    refine wpAnyH_done (by kernel_rfl) ?_ _
    have HEND := Lib.hid (bw10.out.trans (hHeld.mono bw10.out.size))
    clear hHeld cvT
    go_wp2
    go_ret
    exact ⟨rfl, HEND.out⟩
end Go.Proofs.Ytdnmbabofkiiiaa
