/-
  CodecTexts returns true for every byte string, key, text, place and byte, and changes nothing that was there: the walk.
-/
import Derived.Test.YtdnmbabofkiiiaaRefParse
import Derived.Test.YtdnmbabofkiiiaaRefKeyParse
import Derived.Test.YtdnmbabofkiiiaaTextsReturn
import Derived.Deep.DeepCutAuto
namespace Go.Proofs.Ytdnmbabofkiiiaa
open Go.RowKit

/-- block g, from B on, begins with the bytes l, which may be written -/
def Fresh (w : World) (B g : Nat) (l : List UInt8) : Prop :=
  B ≤ g ∧ g < w.heap.size ∧ (∀ j (h : j < l.length), w.cell? ⟨g, j, none⟩ = some (.int .u8 (l[j].toNat : Int))) ∧ ∀ j, j < l.length → w.frozen? ⟨g, j, none⟩ = false
theorem Fresh.below {w w' : World} {B g : Nat} {l : List UInt8} (h : Fresh w B g l) (hb : Below w.heap.size w w') : Fresh w' B g l :=
  ⟨h.1, Nat.lt_of_lt_of_le h.2.1 hb.size, fun j hj => (hb.cell (p := ⟨g, j, none⟩) h.2.1).trans (h.2.2.1 j hj), fun j hj => (hb.frozen (p := ⟨g, j, none⟩) h.2.1).trans (h.2.2.2 j hj)⟩
theorem Fresh.other {w : World} {B g g' p : Nat} {l : List UInt8} (h : Fresh w B g l) (hne : g ≠ g') (u : Value) : Fresh (w.setCell ⟨g', p, none⟩ u) B g l := by
  have hb : (w.setCell ⟨g', p, none⟩ u).heap[g]? = w.heap[g]? := Below.heap_setCell w ⟨g', p, none⟩ u g hne
  exact ⟨h.1, by simpa [World.setCell] using h.2.1, fun j hj => (World.cell?_of_block (a := ⟨g, j, none⟩) hb).trans (h.2.2.1 j hj), fun j hj => (World.frozen?_of_block (a := ⟨g, j, none⟩) hb).trans (h.2.2.2 j hj)⟩
theorem Fresh.set_ {w : World} {B g p : Nat} {l : List UInt8} (h : Fresh w B g l) (z : UInt8) (v : Value) (hv : v = .int .u8 (z.toNat : Int)) : Fresh (w.setCell ⟨g, p, none⟩ v) B g (l.set p z) := by
  subst hv
  refine ⟨h.1, by simpa [World.setCell] using h.2.1, fun j hj => ?_, fun j hj => ?_⟩
  · have hj' : j < l.length := by simpa using hj
    by_cases e : p = j
    · subst e
      rw [List.getElem_set_self]
      exact World.cell?_setCell_same _ _ _ (h.2.2.1 p hj')
    · rw [List.getElem_set_ne e]
      exact (World.cell?_setCell_other _ _ _ _ (fun h => e (by injection h))).trans (h.2.2.1 j hj')
  · have hj' : j < l.length := by simpa using hj
    exact (World.frozen?_setCell _ _ _ _).trans (h.2.2.2 j hj')
theorem fresh_new (w : World) (B : Nat) (hB : B ≤ w.heap.size) (l : List UInt8) : ∃ cap w', (convert 9 23 (.string ⟨l.toArray⟩)).run Try.prog w = .ok (.slice (some ⟨w.heap.size, 0, none⟩) l.length cap) w' ∧ Below w.heap.size w w' ∧ Fresh w' B w.heap.size l := by
  obtain ⟨cap, w', hrun, hs, hb, hc, hf⟩ := run_bytes_new (P := Try.prog) w 9 23 5 l Try.underlying9 Try.underlying23 Try.underlying5
  exact ⟨cap, w', hrun, hb, hB, by omega, hc, hf⟩
theorem Fresh.rd {w : World} {B g n : Nat} {l : List UInt8} (h : Fresh w B g l) (hn : l.length = n) : Rd w w.heap.size (some ⟨g, 0, none⟩) n l :=
  ⟨hn, fun _ => ⟨g, 0, rfl, h.2.1, fun j hj => by rw [Nat.zero_add]; exact h.2.2.1 j hj⟩⟩
/-- what the second statement leaves: two new slices of different blocks -/
def TwoNew (W : World) (B n : Nat) (l m : List UInt8) (v11 v12 : Value) (wx : World) : Prop :=
  ∃ gt ct gu cu, v11 = .slice (some ⟨gt, 0, none⟩) n ct ∧ v12 = .slice (some ⟨gu, 0, none⟩) 44 cu ∧ Fresh wx B gt l ∧ Fresh wx B gu m ∧ gt ≠ gu ∧ Below B W wx
/-- block g, from B on, holds four strings -/
def Four (w : World) (B g : Nat) (a b c d : List UInt8) : Prop := B ≤ g ∧ g < w.heap.size ∧ w.heap[g]? = some (.cells #[.string ⟨a.toArray⟩, .string ⟨b.toArray⟩, .string ⟨c.toArray⟩, .string ⟨d.toArray⟩] 9)
theorem four_at {w : World} {B g : Nat} {a b c d : List UInt8} (h : Four w B g a b c d) (ha : a.length ≤ 1000000) (hb : b.length ≤ 1000000) (hc : c.length ≤ 1000000) (hd : d.length ≤ 1000000) :
    ∀ wr, Below w.heap.size w wr → ∀ j : Nat, j < 4 → ∃ x : List UInt8, wr.cell? ⟨g, j, none⟩ = some (.string ⟨x.toArray⟩) ∧ x.length ≤ 1000000 := by
  intro wr hwr j hj
  have hblk : Blk w g 9 [.string ⟨a.toArray⟩, .string ⟨b.toArray⟩, .string ⟨c.toArray⟩, .string ⟨d.toArray⟩] := h.2.2
  have hc' := (hblk.below hwr h.2.1).cell j
  obtain rfl | rfl | rfl | rfl : j = 0 ∨ j = 1 ∨ j = 2 ∨ j = 3 := by omega
  · exact ⟨a, hc', ha⟩
  · exact ⟨b, hc', hb⟩
  · exact ⟨c, hc', hc⟩
  · exact ⟨d, hc', hd⟩
theorem step_two {P : Program} {md : Region.Mode} {ops : Array Oper} {Q : Exit → Act → World → Prop} {S : World → Prop} {r r' : List Oper} {o o' : Oper} {fuel : Nat} {listed : Array Bool} {a : Act} {w : World} (i j : Nat) (hi : ops.toList.drop i = o :: r) (hj : ops.toList.drop j = o' :: r')
    (hr : Region.ready md ops listed = [i, j])
    (h : ∀ K' : Act → World → Prop, Shut (∀ a w, S w → (S w → wpAnyH P md ops Q S fuel (listed.setIfInBounds i true) a w) → K' a w) → if Region.wanted o (yielded ops a.tmps) = true then Oper.wp P o a w K' Q else K' (a.put o.dst undef) w)
    (h' : ∀ K' : Act → World → Prop, Shut (∀ a w, S w → (S w → wpAnyH P md ops Q S fuel (listed.setIfInBounds j true) a w) → K' a w) → if Region.wanted o' (yielded ops a.tmps) = true then Oper.wp P o' a w K' Q else K' (a.put o'.dst undef) w) :
    wpAnyH P md ops Q S (fuel + 1) listed a w :=
  wpAnyH_ready hr (by simp) (AllReadyH.cons (getElem?_of_drop hi) h (AllReadyH.cons (getElem?_of_drop hj) h' AllReadyH.nil))

def valH (l : List UInt8) : List UInt8 := (parseH l).getD []
def errH (l : List UInt8) : Nat := if (parseH l).isSome then 0 else 5
def valK (l : List UInt8) : List UInt8 := (parseK l).getD (List.replicate 32 0)
def errK (l : List UInt8) : Nat := if (parseK l).isSome then 0 else 5
theorem valK_length (l : List UInt8) : (valK l).length = 32 := by
  unfold valK
  rcases h : parseK l with _ | q
  · rfl
  · exact (text_parse l q h).1
def HexU (l : List UInt8) (w : World) (e : Ending) (w' : World) : Prop := ∃ A n c, e = .returned (.tuple #[.slice A n c, .int .i64 (errH l : Nat)]) ∧ Rd w' w'.heap.size A n (valH l) ∧ Below w.heap.size w w'
theorem hexU {l : List UInt8} {w : World} {e : Ending} {w' : World} (h : HexRes l w e w') : HexU l w e w' := by
  unfold HexU errH valH
  rcases h with ⟨r, A, c, hp, he, hr, hb⟩ | ⟨hp, he, hb⟩
  · rw [hp]
    exact ⟨A, _, c, he, hr, hb⟩
  · rw [hp]
    exact ⟨none, 0, 0, he, Rd.nil _ _ _, hb⟩
theorem keyU {l : List UInt8} {w : World} {e : Ending} {w' : World} (h : KeyRes l w e w') : e = .returned (.tuple #[.agg ((valK l).map u8v).toArray, .int .i64 (errK l : Nat)]) ∧ Below w.heap.size w w' := by
  unfold errK valK
  rcases h with ⟨q, hp, he, hb⟩ | ⟨hp, he, hb⟩
  · rw [hp]
    exact ⟨he, hb⟩
  · rw [hp]
    exact ⟨he, hb⟩

set_option maxRecDepth 100000 in
set_option maxHeartbeats 4000000 in
theorem texts_walk (w : World) (A : Option Addr) (len cap : Nat) (l : List UInt8) (k : List UInt8) (s : ByteArray) (i y : Nat) (hlc : len ≤ cap) (hcm : cap ≤ maxLen) (hr : Rd w w.heap.size A len l) (hk : k.length = 32) (hs : s.size ≤ maxLen) (hi : i ≤ 255) (hy : y ≤ 255) :
    Calls Try.prog 5 #[.slice A len cap, .agg (k.map u8v).toArray, .string s, .int .u8 i, .int .u8 y] w fun e w' => e = .returned (.bool true) ∧ Below w.heap.size w w' := by
  obtain ⟨i0, hi0, hz0, hz1, hz2⟩ := info_parts Try.info5
  obtain ⟨ck, hck⟩ : ∃ ck, (k.map u8v).toArray = ck := ⟨_, rfl⟩
  rw [hck]
  obtain ⟨sl, rfl⟩ : ∃ sl : List UInt8, s = ⟨sl.toArray⟩ := ⟨s.data.toList, by simp⟩
  have hsl : sl.length ≤ maxLen := by simpa [ByteArray.size] using hs
  have HB0 := Lib.hid (show Blk (w.alloc (.cells ck 33)) w.heap.size 33 (k.map u8v) by rw [← hck]; exact Blk.new w _ _)
  have C1 := Lib.hid (cut_any _ A len cap 60 l hlc hcm (w.alloc (.cells ck 33)) (hr.alloc (Nat.le_refl _) _))
  obtain ⟨N, hN⟩ : ∃ N, min len 60 = N := ⟨_, rfl⟩
  have hN60 : N ≤ 60 := by omega
  obtain ⟨lb, hlb⟩ : ∃ lb, l.take 60 = lb := ⟨_, rfl⟩
  rw [hN, hlb] at C1
  obtain ⟨ls, hls⟩ : ∃ ls, sl.take 60 = ls := ⟨_, rfl⟩
  have C2 := Lib.hid (fun w' : World => short_any sl 60 hsl (by omega) w')
  rw [hls] at C2
  have HLS := Lib.hid (show ls.length ≤ 60 by rw [← hls, List.length_take]; omega)
  have HK := Lib.hid hk
  clear hr hlc hcm hN hlb hck hk hs hsl hls
  go_enter Try.func5, Try.ntmps5
  go_wp2_with fail
  refine C1.out.mono ?_
  rintro e w1 ⟨rfl, hra, rfl⟩
  have hblk := HB0.out
  have hbw0 : Below w.heap.size w (w.alloc (.cells ck 33)) := (Below.refl _ _).alloc (Nat.le_refl _) _
  have hsz0 : w.heap.size + 1 = (w.alloc (.cells ck 33)).heap.size := by simp
  go_wp2_with fail
  generalize w.alloc _ = W0 at hra hblk hbw0 hsz0 ⊢
  refine (C2.out _).mono ?_
  rintro e w1 ⟨rfl, rfl⟩
  have HXL := Lib.hid (show (hexL lb).length = 2 * N by rw [hexL_length, hra.1])
  have HSZ := Lib.hid hsz0
  have KB := Lib.hid (show ∀ w', Below W0.heap.size W0 w' → Blk w' w.heap.size 33 (k.map u8v) from fun w' hb => hblk.below hb hblk.lt)
  have RA := Lib.hid (show ∀ w', Below W0.heap.size W0 w' → Rd w' w.heap.size A N lb from fun w' hb => hra.below (hb.mono (by omega)))
  have SZ : ∀ w', Below W0.heap.size W0 w' → w.heap.size + 1 ≤ w'.heap.size := fun w' hb => by have := hb.size; omega
  have HBW0 := Lib.hid hbw0
  clear C1 C2 HB0 hra hblk hbw0 hsz0
  go_upto_region 2 with fail
  go_cut [11, 12] (fun v11 v12 wx => TwoNew W0 (w.heap.size + 1) (2 * N) (hexL lb) (textL k) v11 v12 wx)
  case first =>
    refine wp_region_held_drew (S := fun w' => Below W0.heap.size W0 w') (by kernel_rfl) ((Below.refl W0.heap.size W0).drew) (fun hHeld => ?_)
    refine take_first (v := ?_) 0 rfl (by kernel_rfl) (by kernel_rfl) (by kernel_rfl) (fun _ _ _ h => h) (Or.inl ⟨by rfl, ?_⟩) (by assumption) ?_
    rotate_left
    · (intro w hSw; (try dsimp only at hSw); go_simp; try with_reducible rfl)
    (try simp only [Act.put, List.setIfInBounds_toArray, List.set_cons_zero, List.set_cons_succ])
    refine take_first (v := .agg (k.map u8v).toArray) 3 rfl (by kernel_rfl) (by kernel_rfl) (by kernel_rfl) (fun _ _ _ h => h) (yields_load_blk (by rfl) 33 (.tmp 6) rfl w.heap.size rfl 33 (k.map u8v) KB.out 32 5 Try.underlying33 (size32 (by rw [List.length_map, HK.out]))) (by assumption) ?_
    (try simp only [Act.put, List.setIfInBounds_toArray, List.set_cons_zero, List.set_cons_succ])
    refine step_one 1 rfl (by kernel_rfl) (fun K hK => ?_)
    go_simp
    refine (refHex_any (w.heap.size) A N cap lb (by omega) _ (by have := SZ _ hHeld; omega) (RA.out _ hHeld)).mono ?_
    rintro e w2 ⟨rfl, hb2⟩
    go_wp2_with fail
    refine hK.out _ _ (hHeld.trans (hb2.mono hHeld.size)) (fun hHeld => ?_)
    clear hK K
    (try simp only [Act.put, List.setIfInBounds_toArray, List.set_cons_zero, List.set_cons_succ])
    refine step_two 2 4 rfl rfl (by kernel_rfl) (fun K hK => ?_) (fun K hK => ?_)
    · obtain ⟨ct, wt, hrt, hbt, hft⟩ := fresh_new w2 (w.heap.size + 1) (SZ _ hHeld) (hexL lb)
      rw [HXL.out] at hrt
      go_simp
      refine hK.out _ _ (hHeld.trans (hbt.mono hHeld.size)) (fun hHeld => ?_)
      clear hK K
      (try simp only [Act.put, List.setIfInBounds_toArray, List.set_cons_zero, List.set_cons_succ])
      refine step_one 4 rfl (by kernel_rfl) (fun K hK => ?_)
      go_simp
      refine (refText_any k HK.out _ rfl _).mono ?_
      rintro e w3 ⟨rfl, hb3⟩
      go_wp2_with fail
      refine hK.out _ _ (hHeld.trans (hb3.mono hHeld.size)) (fun hHeld => ?_)
      clear hK K
      (try simp only [Act.put, List.setIfInBounds_toArray, List.set_cons_zero, List.set_cons_succ])
      refine take_first (v := ?_) 6 rfl (by kernel_rfl) (by kernel_rfl) (by kernel_rfl) (fun _ _ _ h => h) (Or.inl ⟨by rfl, ?_⟩) (by assumption) ?_
      rotate_left
      · (intro w hSw; (try dsimp only at hSw); go_simp; try with_reducible rfl)
      (try simp only [Act.put, List.setIfInBounds_toArray, List.set_cons_zero, List.set_cons_succ])
      refine step_one 5 rfl (by kernel_rfl) (fun K hK => ?_)
      obtain ⟨cu, wu, hru, hbu, hfu⟩ := fresh_new w3 (w.heap.size + 1) (SZ _ hHeld) (textL k)
      rw [textL_length] at hru
      go_simp
      refine hK.out _ _ (hHeld.trans (hbu.mono hHeld.size)) (fun hHeld => ?_)
      clear hK K
      (try simp only [Act.put, List.setIfInBounds_toArray, List.set_cons_zero, List.set_cons_succ])
      refine take_first (v := ?_) 7 rfl (by kernel_rfl) (by kernel_rfl) (by kernel_rfl) (fun _ _ _ h => h) (Or.inl ⟨by rfl, ?_⟩) (by assumption) ?_
      rotate_left
      · (intro w hSw; (try dsimp only at hSw); go_simp; try with_reducible rfl)
      (try simp only [Act.put, List.setIfInBounds_toArray, List.set_cons_zero, List.set_cons_succ])
      refine wpAnyH_done (by kernel_rfl) ?_ _
      go_wp2_with fail
      go_meet
      exact ⟨w2.heap.size, _, w3.heap.size, _, rfl, rfl, hft.below (hb3.trans (hbu.mono hb3.size)), hfu, by have := hft.2.1; have := hb3.size; omega, hHeld.mono (by have := HSZ.out; omega)⟩
    · go_simp
      refine (refText_any k HK.out _ rfl _).mono ?_
      rintro e w3 ⟨rfl, hb3⟩
      go_wp2_with fail
      refine hK.out _ _ (hHeld.trans (hb3.mono hHeld.size)) (fun hHeld => ?_)
      clear hK K
      (try simp only [Act.put, List.setIfInBounds_toArray, List.set_cons_zero, List.set_cons_succ])
      refine step_two 2 5 rfl rfl (by kernel_rfl) (fun K hK => ?_) (fun K hK => ?_)
      · obtain ⟨ct, wt, hrt, hbt, hft⟩ := fresh_new w3 (w.heap.size + 1) (SZ _ hHeld) (hexL lb)
        rw [HXL.out] at hrt
        go_simp
        refine hK.out _ _ (hHeld.trans (hbt.mono hHeld.size)) (fun hHeld => ?_)
        clear hK K
        (try simp only [Act.put, List.setIfInBounds_toArray, List.set_cons_zero, List.set_cons_succ])
        refine take_first (v := ?_) 6 rfl (by kernel_rfl) (by kernel_rfl) (by kernel_rfl) (fun _ _ _ h => h) (Or.inl ⟨by rfl, ?_⟩) (by assumption) ?_
        rotate_left
        · (intro w hSw; (try dsimp only at hSw); go_simp; try with_reducible rfl)
        (try simp only [Act.put, List.setIfInBounds_toArray, List.set_cons_zero, List.set_cons_succ])
        refine step_one 5 rfl (by kernel_rfl) (fun K hK => ?_)
        obtain ⟨cu, wu, hru, hbu, hfu⟩ := fresh_new wt (w.heap.size + 1) (SZ _ hHeld) (textL k)
        rw [textL_length] at hru
        go_simp
        refine hK.out _ _ (hHeld.trans (hbu.mono hHeld.size)) (fun hHeld => ?_)
        clear hK K
        (try simp only [Act.put, List.setIfInBounds_toArray, List.set_cons_zero, List.set_cons_succ])
        refine take_first (v := ?_) 7 rfl (by kernel_rfl) (by kernel_rfl) (by kernel_rfl) (fun _ _ _ h => h) (Or.inl ⟨by rfl, ?_⟩) (by assumption) ?_
        rotate_left
        · (intro w hSw; (try dsimp only at hSw); go_simp; try with_reducible rfl)
        (try simp only [Act.put, List.setIfInBounds_toArray, List.set_cons_zero, List.set_cons_succ])
        refine wpAnyH_done (by kernel_rfl) ?_ _
        go_wp2_with fail
        go_meet
        exact ⟨w3.heap.size, _, wt.heap.size, _, rfl, rfl, hft.below hbu, hfu, by have := hft.2.1; omega, hHeld.mono (by have := HSZ.out; omega)⟩
      · obtain ⟨cu, wu, hru, hbu, hfu⟩ := fresh_new w3 (w.heap.size + 1) (SZ _ hHeld) (textL k)
        rw [textL_length] at hru
        go_simp
        refine hK.out _ _ (hHeld.trans (hbu.mono hHeld.size)) (fun hHeld => ?_)
        clear hK K
        (try simp only [Act.put, List.setIfInBounds_toArray, List.set_cons_zero, List.set_cons_succ])
        refine step_one 2 rfl (by kernel_rfl) (fun K hK => ?_)
        obtain ⟨ct, wt, hrt, hbt, hft⟩ := fresh_new wu (w.heap.size + 1) (SZ _ hHeld) (hexL lb)
        rw [HXL.out] at hrt
        go_simp
        refine hK.out _ _ (hHeld.trans (hbt.mono hHeld.size)) (fun hHeld => ?_)
        clear hK K
        (try simp only [Act.put, List.setIfInBounds_toArray, List.set_cons_zero, List.set_cons_succ])
        refine take_first (v := ?_) 6 rfl (by kernel_rfl) (by kernel_rfl) (by kernel_rfl) (fun _ _ _ h => h) (Or.inl ⟨by rfl, ?_⟩) (by assumption) ?_
        rotate_left
        · (intro w hSw; (try dsimp only at hSw); go_simp; try with_reducible rfl)
        (try simp only [Act.put, List.setIfInBounds_toArray, List.set_cons_zero, List.set_cons_succ])
        refine take_first (v := ?_) 7 rfl (by kernel_rfl) (by kernel_rfl) (by kernel_rfl) (fun _ _ _ h => h) (Or.inl ⟨by rfl, ?_⟩) (by assumption) ?_
        rotate_left
        · (intro w hSw; (try dsimp only at hSw); go_simp; try with_reducible rfl)
        (try simp only [Act.put, List.setIfInBounds_toArray, List.set_cons_zero, List.set_cons_succ])
        refine wpAnyH_done (by kernel_rfl) ?_ _
        go_wp2_with fail
        go_meet
        exact ⟨wu.heap.size, _, w3.heap.size, _, rfl, rfl, hft, hfu.below hbt, by have := hfu.2.1; omega, hHeld.mono (by have := HSZ.out; omega)⟩
  case rest =>
    obtain ⟨gt, ct, gu, cu, rfl, rfl, hft, hfu, hne, hbx⟩ := hcut
    go_upto_if 35 with fail
    go_cut [] (fun wx => ∃ tl : List UInt8, tl.length = 2 * N ∧ Fresh wx (w.heap.size + 1) gt tl ∧ Fresh wx (w.heap.size + 1) gu (textL k) ∧ Below (w.heap.size + 1) W0 wx)
    case first =>
      by_cases hN0 : N = 0
      · have q0 : decide ((0 : Int) < ((2 * N : Nat) : Int)) = false := by simp; omega
        go_wp2_with fail
        go_meet
        exact ⟨_, HXL.out, hft, hfu, hbx⟩
      · have q0 : decide ((0 : Int) < ((2 * N : Nat) : Int)) = true := by simp; omega
        have d1 : (0 : Int) ≤ (i : Int) % (2 * (N : Int)) := Int.emod_nonneg _ (by omega)
        have d2 : (i : Int) % (2 * (N : Int)) < 2 * (N : Int) := Int.emod_lt_of_pos _ (by omega)
        have hp : i % (2 * N) < (hexL lb).length := by rw [HXL.out]; exact Nat.mod_lt _ (by omega)
        have hcp := hft.2.2.1 _ hp
        have hfp := hft.2.2.2 _ hp
        go_wp2_with fail
        go_meet
        refine ⟨(hexL lb).set (i % (2 * N)) (UInt8.ofNat y), by rw [List.length_set, HXL.out], hft.set_ _ _ (by rw [UInt8.toNat_ofNat', Nat.mod_eq_of_lt (by omega)]), hfu.other (Ne.symm hne) _, hbx.setCell (p := ⟨gt, _, none⟩) hft.1 _⟩
    case rest =>
      obtain ⟨tl, htl, hft, hfu, hbx⟩ := hcut
      have d1 : (0 : Int) ≤ (i : Int) % 44 := by omega
      have d2 : (i : Int) % 44 < 44 := by omega
      have hp : i % 44 < (textL k).length := by rw [textL_length]; exact Nat.mod_lt _ (by omega)
      have hcp := hfu.2.2.1 _ hp
      have hfp := hfu.2.2.2 _ hp
      go_upto_region 6 with fail
      have ft2 := hft.other (p := i % 44) hne (.int .u8 (y : Int))
      have fu2 := hfu.set_ (p := i % 44) (UInt8.ofNat y) (.int .u8 (y : Int)) (by rw [UInt8.toNat_ofNat', Nat.mod_eq_of_lt (by omega)])
      have hb1 := hbx.setCell (p := ⟨gu, i % 44, none⟩) hfu.1 (.int .u8 (y : Int))
      have hul : ((textL k).set (i % 44) (UInt8.ofNat y)).length = 44 := by rw [List.length_set, textL_length]
      clear hcp hfp hp hft hfu hbx
      generalize (textL k).set (i % 44) (UInt8.ofNat y) = ul at fu2 hul
      generalize wc.setCell _ _ = W1 at ft2 fu2 hb1 ⊢
      rw [HSZ.out] at ft2 fu2 hb1
      go_cut [63] (fun v63 wx => v63 = .bool false ∧ Fresh wx W0.heap.size gt tl ∧ Fresh wx W0.heap.size gu ul ∧ Below W0.heap.size W0 wx)
      case first =>
        refine wp_region_held_drew (S := fun w' => Below W1.heap.size W1 w') (by kernel_rfl) ((Below.refl W1.heap.size W1).drew) (fun hHeld => ?_)
        refine take_first (v := ?_) 0 rfl (by kernel_rfl) (by kernel_rfl) (by kernel_rfl) (fun _ _ _ h => h) (Or.inl ⟨by rfl, ?_⟩) (by assumption) ?_
        rotate_left
        · (intro w hSw; (try dsimp only at hSw); go_simp; try with_reducible rfl)
        (try simp only [Act.put, List.setIfInBounds_toArray, List.set_cons_zero, List.set_cons_succ])
        refine take_first (v := ?_) 2 rfl (by kernel_rfl) (by kernel_rfl) (by kernel_rfl) (fun _ _ _ h => h) (Or.inl ⟨by rfl, ?_⟩) (by assumption) ?_
        rotate_left
        · (intro w hSw; (try dsimp only at hSw); go_simp; try with_reducible rfl)
        (try simp only [Act.put, List.setIfInBounds_toArray, List.set_cons_zero, List.set_cons_succ])
        refine step_one 1 rfl (by kernel_rfl) (fun K hK => ?_)
        go_simp
        refine (hex_any w.heap.size A N cap lb (by omega) _ (RA.out _ (hb1.trans (hHeld.mono hb1.size))) (by have := SZ _ (hb1.trans (hHeld.mono hb1.size)); omega)).mono ?_
        rintro e wa ⟨rfl, hbwa⟩
        go_wp2_with fail
        refine hK.out _ _ (hHeld.trans (hbwa.mono hHeld.size)) (fun hHeld => ?_)
        clear hK K
        (try simp only [Act.put, List.setIfInBounds_toArray, List.set_cons_zero, List.set_cons_succ])
        refine step_one 3 rfl (by kernel_rfl) (fun K hK => ?_)
        go_simp
        refine (refHex_any w.heap.size A N cap lb (by omega) _ (by have := SZ _ (hb1.trans (hHeld.mono hb1.size)); omega) (RA.out _ (hb1.trans (hHeld.mono hb1.size)))).mono ?_
        rintro e wb ⟨rfl, hbwb⟩
        go_wp2_with fail
        refine hK.out _ _ (hHeld.trans (hbwb.mono hHeld.size)) (fun hHeld => ?_)
        clear hK K
        (try simp only [Act.put, List.setIfInBounds_toArray, List.set_cons_zero, List.set_cons_succ])
        refine take_first (v := ?_) 4 rfl (by kernel_rfl) (by kernel_rfl) (by kernel_rfl) (fun _ _ _ h => h) (Or.inl ⟨by rfl, ?_⟩) (by assumption) ?_
        rotate_left
        · (intro w hSw; (try dsimp only at hSw); go_simp; try with_reducible rfl)
        (try simp only [Act.put, List.setIfInBounds_toArray, List.set_cons_zero, List.set_cons_succ])
        refine take_first (v := ?_) 5 rfl (by kernel_rfl) (by kernel_rfl) (by kernel_rfl) (fun _ _ _ h => h) (Or.inl ⟨by rfl, ?_⟩) (by assumption) ?_
        rotate_left
        · (intro w hSw; (try dsimp only at hSw); go_simp; try with_reducible rfl)
        (try simp only [Act.put, List.setIfInBounds_toArray, List.set_cons_zero, List.set_cons_succ])
        refine take_first (v := .agg (k.map u8v).toArray) 6 rfl (by kernel_rfl) (by kernel_rfl) (by kernel_rfl) (fun _ _ _ h => h) (yields_load_blk (by rfl) 33 (.tmp 6) rfl w.heap.size rfl 33 (k.map u8v) (fun w' hb => KB.out w' (hb1.trans (hb.mono hb1.size))) 32 5 Try.underlying33 (size32 (by rw [List.length_map, HK.out]))) (by assumption) ?_
        (try simp only [Act.put, List.setIfInBounds_toArray, List.set_cons_zero, List.set_cons_succ])
        refine take_first (v := .agg (k.map u8v).toArray) 8 rfl (by kernel_rfl) (by kernel_rfl) (by kernel_rfl) (fun _ _ _ h => h) (yields_load_blk (by rfl) 33 (.tmp 6) rfl w.heap.size rfl 33 (k.map u8v) (fun w' hb => KB.out w' (hb1.trans (hb.mono hb1.size))) 32 5 Try.underlying33 (size32 (by rw [List.length_map, HK.out]))) (by assumption) ?_
        (try simp only [Act.put, List.setIfInBounds_toArray, List.set_cons_zero, List.set_cons_succ])
        refine step_one 7 rfl (by kernel_rfl) (fun K hK => ?_)
        go_simp
        refine (text_any k HK.out _ rfl _).mono ?_
        rintro e wc2 ⟨rfl, hbwc2⟩
        go_wp2_with fail
        refine hK.out _ _ (hHeld.trans (hbwc2.mono hHeld.size)) (fun hHeld => ?_)
        clear hK K
        (try simp only [Act.put, List.setIfInBounds_toArray, List.set_cons_zero, List.set_cons_succ])
        refine step_one 9 rfl (by kernel_rfl) (fun K hK => ?_)
        go_simp
        refine (refText_any k HK.out _ rfl _).mono ?_
        rintro e wd ⟨rfl, hbwd⟩
        go_wp2_with fail
        refine hK.out _ _ (hHeld.trans (hbwd.mono hHeld.size)) (fun hHeld => ?_)
        clear hK K
        (try simp only [Act.put, List.setIfInBounds_toArray, List.set_cons_zero, List.set_cons_succ])
        refine take_first (v := ?_) 10 rfl (by kernel_rfl) (by kernel_rfl) (by kernel_rfl) (fun _ _ _ h => h) (Or.inl ⟨by rfl, ?_⟩) (by assumption) ?_
        rotate_left
        · (intro w hSw; (try dsimp only at hSw); go_simp; try with_reducible rfl)
        (try simp only [Act.put, List.setIfInBounds_toArray, List.set_cons_zero, List.set_cons_succ])
        refine take_first (v := ?_) 11 rfl (by kernel_rfl) (by kernel_rfl) (by kernel_rfl) (fun _ _ _ h => h) (Or.inl ⟨by rfl, ?_⟩) (by assumption) ?_
        rotate_left
        · (intro w hSw; (try dsimp only at hSw); go_simp; try with_reducible rfl)
        (try simp only [Act.put, List.setIfInBounds_toArray, List.set_cons_zero, List.set_cons_succ])
        refine wpAnyH_done (by kernel_rfl) ?_ _
        go_wp2_with fail
        go_meet
        exact ⟨rfl, ft2.below hHeld, fu2.below hHeld, hb1.trans (hHeld.mono hb1.size)⟩
      case rest =>
        obtain ⟨rfl, hft, hfu, hb1⟩ := hcut
        go_upto_region 8 with fail
        have cvT : ∀ w' : World, Below wc.heap.size wc w' → (convert 23 9 (.slice (some ⟨gt, 0, none⟩) (2 * N) ct)).run Try.prog w' = .ok (.string ⟨tl.toArray⟩) w' := fun w' hb => conv_str (((hft.below hb).rd htl)) ct
        have cvU : ∀ w' : World, Below wc.heap.size wc w' → (convert 23 9 (.slice (some ⟨gu, 0, none⟩) 44 cu)).run Try.prog w' = .ok (.string ⟨ul.toArray⟩) w' := fun w' hb => conv_str (((hfu.below hb).rd hul)) cu
        have had : ∀ w' : World, (Op.stringOp .add ⟨(textL k).toArray⟩ ⟨ls.toArray⟩).run Try.prog w' = .ok (.string ⟨(textL k ++ ls).toArray⟩) w' := fun w' => run_string_add_lists w' (textL k) ls (by rw [textL_length]; omega) (by have := HLS.out; omega)
        obtain ⟨ks, hks⟩ : ∃ ks, textL k ++ ls = ks := ⟨_, rfl⟩
        have HKS := Lib.hid (show ks.length ≤ 1000000 by rw [← hks, List.length_append, textL_length]; have := HLS.out; omega)
        rw [hks] at had
        clear hks hft hfu
        go_cut [73, 74, 75] (fun v73 v74 v75 wx => ∃ gs cs, v73 = .slice (some ⟨gs, 0, none⟩) 4 cs ∧ v74 = .int .i64 4 ∧ v75 = .int .i64 0 ∧ Four wx W0.heap.size gs ls tl ul ks ∧ Below W0.heap.size W0 wx)
        case first =>
            refine wp_region_held_drew (S := fun w' => Below wc.heap.size wc w') (by kernel_rfl) ((Below.refl wc.heap.size wc).drew) (fun hHeld => ?_)
            refine take_first (v := ?_) 0 rfl (by kernel_rfl) (by kernel_rfl) (by kernel_rfl) (fun _ _ _ h => h) (Or.inl ⟨by rfl, ?_⟩) (by assumption) ?_
            rotate_left
            · (intro w hSw; (try dsimp only at hSw); go_simp; try with_reducible rfl)
            (try simp only [Act.put, List.setIfInBounds_toArray, List.set_cons_zero, List.set_cons_succ])
            refine take_first (v := ?_) 1 rfl (by kernel_rfl) (by kernel_rfl) (by kernel_rfl) (fun _ _ _ h => h) (Or.inl ⟨by rfl, ?_⟩) (by assumption) ?_
            rotate_left
            · (intro w hSw; (try dsimp only at hSw); go_simp; try with_reducible rfl)
            (try simp only [Act.put, List.setIfInBounds_toArray, List.set_cons_zero, List.set_cons_succ])
            refine take_first (v := ?_) 2 rfl (by kernel_rfl) (by kernel_rfl) (by kernel_rfl) (fun _ _ _ h => h) (Or.inl ⟨by rfl, ?_⟩) (by assumption) ?_
            rotate_left
            · (intro w hSw; (try dsimp only at hSw); go_simp; try with_reducible rfl)
            (try simp only [Act.put, List.setIfInBounds_toArray, List.set_cons_zero, List.set_cons_succ])
            refine take_first (v := ?_) 3 rfl (by kernel_rfl) (by kernel_rfl) (by kernel_rfl) (fun _ _ _ h => h) (Or.inl ⟨by rfl, ?_⟩) (by assumption) ?_
            rotate_left
            · (intro w hSw; (try dsimp only at hSw); go_simp; try with_reducible rfl)
            (try simp only [Act.put, List.setIfInBounds_toArray, List.set_cons_zero, List.set_cons_succ])
            refine take_first (v := ?_) 4 rfl (by kernel_rfl) (by kernel_rfl) (by kernel_rfl) (fun _ _ _ h => h) (Or.inl ⟨by rfl, ?_⟩) (by assumption) ?_
            rotate_left
            · (intro w hSw; (try dsimp only at hSw); go_simp; try with_reducible rfl)
            (try simp only [Act.put, List.setIfInBounds_toArray, List.set_cons_zero, List.set_cons_succ])
            refine take_first (v := .agg (k.map u8v).toArray) 5 rfl (by kernel_rfl) (by kernel_rfl) (by kernel_rfl) (fun _ _ _ h => h) (yields_load_blk (by rfl) 33 (.tmp 6) rfl w.heap.size rfl 33 (k.map u8v) (fun w' hb => KB.out w' (hb1.trans (hb.mono hb1.size))) 32 5 Try.underlying33 (size32 (by rw [List.length_map, HK.out]))) (by assumption) ?_
            (try simp only [Act.put, List.setIfInBounds_toArray, List.set_cons_zero, List.set_cons_succ])
            refine take_first (v := ?_) 7 rfl (by kernel_rfl) (by kernel_rfl) (by kernel_rfl) (fun _ _ _ h => h) (Or.inl ⟨by rfl, ?_⟩) (by assumption) ?_
            rotate_left
            · (intro w hSw; (try dsimp only at hSw); go_simp; try with_reducible rfl)
            (try simp only [Act.put, List.setIfInBounds_toArray, List.set_cons_zero, List.set_cons_succ])
            refine take_first (v := ?_) 11 rfl (by kernel_rfl) (by kernel_rfl) (by kernel_rfl) (fun _ _ _ h => h) (Or.inl ⟨by rfl, ?_⟩) (by assumption) ?_
            rotate_left
            · (intro w hSw; (try dsimp only at hSw); go_simp; try with_reducible rfl)
            (try simp only [Act.put, List.setIfInBounds_toArray, List.set_cons_zero, List.set_cons_succ])
            refine step_one 6 rfl (by kernel_rfl) (fun K hK => ?_)
            go_simp
            refine (refText_any k HK.out _ rfl _).mono ?_
            rintro e wa ⟨rfl, hbwa⟩
            go_wp2_with fail
            refine hK.out _ _ (hHeld.trans (hbwa.mono hHeld.size)) (fun hHeld => ?_)
            clear hK K
            (try simp only [Act.put, List.setIfInBounds_toArray, List.set_cons_zero, List.set_cons_succ])
            refine take_first (v := ?_) 8 rfl (by kernel_rfl) (by kernel_rfl) (by kernel_rfl) (fun _ _ _ h => h) (Or.inl ⟨by rfl, ?_⟩) (by assumption) ?_
            rotate_left
            · (intro w hSw; (try dsimp only at hSw); go_simp; try with_reducible rfl)
            (try simp only [Act.put, List.setIfInBounds_toArray, List.set_cons_zero, List.set_cons_succ])
            refine step_one 9 rfl (by kernel_rfl) (fun K hK => ?_)
            have hs9 := hHeld.size
            go_simp
            refine hK.out _ _ (hHeld.alloc hHeld.size _) (fun hHeld => ?_)
            clear hK K
            (try simp only [Act.put, List.setIfInBounds_toArray, List.set_cons_zero, List.set_cons_succ])
            refine take_first (v := ?_) 10 rfl (by kernel_rfl) (by kernel_rfl) (by kernel_rfl) (fun _ _ _ h => h) (Or.inl ⟨by rfl, ?_⟩) (by assumption) ?_
            rotate_left
            · (intro w hSw; (try dsimp only at hSw); go_simp; try with_reducible rfl)
            (try simp only [Act.put, List.setIfInBounds_toArray, List.set_cons_zero, List.set_cons_succ])
            refine wpAnyH_done (by kernel_rfl) ?_ _
            go_wp2_with fail
            go_meet
            exact ⟨wa.heap.size, _, rfl, rfl, rfl, ⟨Nat.le_trans hb1.size hs9, by simp, heap_alloc_new _ _⟩, hb1.trans (hHeld.mono hb1.size)⟩
        case rest =>
          obtain ⟨gs, cs, rfl, rfl, rfl, hF, hb1⟩ := hcut
          have HF := Lib.hid (four_at hF (by have := HLS.out; omega) (by omega) (by omega) HKS.out)
          have HB1 := Lib.hid hb1
          have hgs := hF.2.1
          clear hF hb1 cvT cvU had htl hul
          go_wp2_with fail
          go_loopw [75] (fun v wr => ∃ j : Nat, j ≤ 4 ∧ v = .int .i64 j ∧ Below wc.heap.size wc wr) (fun v _ => 4 - (intOf v).toNat)
          case atStart => exact ⟨0, by omega, rfl, Below.refl _ _⟩
          case round =>
            obtain ⟨j, hj, rfl, hb⟩ := hrel
            by_cases hlt : j < 4
            · obtain ⟨x, hcell, hxl⟩ := HF.out wr hb j hlt
              have HXX := Lib.hid hxl
              have HB := Lib.hid hb
              clear hb hxl
              go_wp2_with fail
              refine (parseHex_any _ x rfl HXX.out _).mono ?_
              intro e w1 h1
              obtain ⟨A1, n1, c1, rfl, hr1, hb1⟩ := hexU h1
              clear h1
              go_wp2_with fail
              refine (refParseHex_any _ x rfl HXX.out _).mono ?_
              intro e w2 h2
              obtain ⟨A2, n2, c2, rfl, hr2, hb2⟩ := hexU h2
              clear h2
              have hr1' := hr1.below hb2
              have hs1 := hb2.size
              clear hr1
              go_wp2_with fail
              refine (parseKey_any _ x rfl HXX.out _).mono ?_
              intro e w3 h3
              obtain ⟨rfl, hb3⟩ := keyU h3
              clear h3
              have r1 := hr1'.below (hb3.mono hs1)
              have r2 := hr2.below hb3
              have s13 : w1.heap.size ≤ w3.heap.size := Nat.le_trans hs1 hb3.size
              have s23 := hb3.size
              have b3 := (HB.out.trans (hb1.mono HB.out.size)).trans (hb2.mono (Nat.le_trans HB.out.size hb1.size))
              have b3' := b3.trans (hb3.mono b3.size)
              clear hr1' hr2 hb1 hb2 hb3 hs1 b3
              obtain ⟨q, hq⟩ : ∃ q, valK x = q := ⟨_, rfl⟩
              have HQ := Lib.hid (show q.length = 32 by rw [← hq]; exact valK_length x)
              have kE := Lib.hid (fun w' : World => (refParseKey_any _ x rfl HXX.out w').mono fun e w'' h => keyU h)
              rw [hq] at kE ⊢
              clear hq
              have eqq : ∀ w' : World, (Op.equalIn 10000 33 (.agg (q.map u8v).toArray) (.agg (q.map u8v).toArray)).run Try.prog w' = .ok true w' := fun w' => by
                rw [run_key_eq 33 5 32 Try.underlying33 Try.underlying5 i0 hi0 hz1 q q HQ.out HQ.out, beq_self_eq_true]
              go_wp2_with (refine wpList_store_blk rfl 33 (.tmp 19) (.tmp 92) rfl w3.heap.size (q.map u8v) rfl rfl 33 (zeros 32) (Blk.new w3 33 (zeros 32)) (size32 (by rw [List.length_map, HQ.out])) (by simp [HQ.out, zeros]) (u8v_one _) ?_; intro w4 hb4 hg4)
              have b34 := below_blk ((Below.refl w3.heap.size w3).alloc (Nat.le_refl _) _) hg4 (Nat.le_refl _)
              refine (kE.out _).mono ?_
              rintro e w5 ⟨rfl, hb5⟩
              have blk5 := hb4.below hb5 hb4.lt
              have b35 := b34.trans (hb5.mono b34.size)
              clear b34 hb4 hg4 hb5 kE
              go_wp2_with (first | (refine wpList_store_blk rfl 33 (.tmp 21) (.tmp 97) rfl w5.heap.size (q.map u8v) rfl rfl 33 (zeros 32) (Blk.new w5 33 (zeros 32)) (size32 (by rw [List.length_map, HQ.out])) (by simp [HQ.out, zeros]) (u8v_one _) ?_; intro w6 hb6 hg6; have b56 := below_blk ((Below.refl w5.heap.size w5).alloc (Nat.le_refl _) _) hg6 (Nat.le_refl _); have b36 := b35.trans (b56.mono b35.size); have cv1 := conv_str ((r1.mono s13).below b36) c1; have cv2 := conv_str ((r2.mono s23).below b36) c2; have blk6 := blk5.below b56 blk5.lt; have B6 := Lib.hid (b3'.trans (b36.mono b3'.size)); clear b56 b36 blk5 b35 hg6 r1 r2 s13 s23) | (refine wpList_load_blk_g (by rfl) 33 (.tmp 19) rfl w3.heap.size rfl 33 (q.map u8v) blk6 32 5 Try.underlying33 (size32 (by rw [List.length_map, HQ.out])) ?_) | (refine wpList_load_blk_g (by rfl) 33 (.tmp 21) rfl w5.heap.size rfl 33 (q.map u8v) hb6 32 5 Try.underlying33 (size32 (by rw [List.length_map, HQ.out])) ?_))
              go_roundw
              case rel => exact ⟨j + 1, by omega, by go_num, B6.out⟩
              case measure => simp [intOf]; omega
            · obtain rfl : j = 4 := by omega
              go_wp2_with fail
              refine (begun_any _).mono ?_
              rintro e w9 ⟨rfl, hb9⟩
              have HW := Lib.hid (((HBW0.out.trans (HB1.out.mono HBW0.out.size)).trans (hb.mono (Nat.le_trans HBW0.out.size HB1.out.size))).trans (hb9.mono (Nat.le_trans (Nat.le_trans HBW0.out.size HB1.out.size) hb.size)))
              go_wp2_with fail
              go_ret
              exact ⟨rfl, HW.out⟩
end Go.Proofs.Ytdnmbabofkiiiaa
