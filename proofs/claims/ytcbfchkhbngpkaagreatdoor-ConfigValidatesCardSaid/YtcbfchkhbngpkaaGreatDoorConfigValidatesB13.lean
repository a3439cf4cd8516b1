/-
  The contract of config's peerLines. The contract of config's Format. What the reference's Format builds, piece by piece. Mathematics only. Plain mathematics of a key's bits: the six bits of a place of the text, one by one, and the bytes that the characters' bits make. The contract of the reference's Text. No statement is proved here.
-/
import Derived.RegionTactic
import Derived.Deep.DeepCutAuto
import Derived.Laws.BitsAllLaws
import Derived.Lib.SmallJoins
import Derived.Lib.Strings
import Derived.BigRegion
import Derived.BigQuiet
import Derived.Deep.QuietTactic
import Derived.Deep.RegionLaw
import Derived.Maps.AppendAt
import Derived.Outline
import Derived.Test.YtcbfchkhbngpkaaGreatDoorConfigValidatesB12
namespace Go.Proofs.YtcbfchkhbngpkaaGreatDoor
open Go.RowKit

/-- the lines that were made -/
structure LnAt (w : World) (g : Nat) (cs : List Value) (ls : List (List UInt8)) (vt : Value) (W : World) : Prop where
  hd : HeapD w.heap.size [ownD w.heap.size 9 1 vt ls.length (ls.map strV), blkD g 57 cs] W
  bel : Below w.heap.size w W
theorem LnAt.below {w W W' : World} {g : Nat} {cs : List Value} {ls : List (List UInt8)} {vt : Value} (h : LnAt w g cs ls vt W) (hb : Below W.heap.size W W') : LnAt w g cs ls vt W' := ⟨h.hd.below hb, h.bel.trans (hb.mono h.bel.size)⟩
theorem LnAt.blk {w W : World} {g : Nat} {cs : List Value} {ls : List (List UInt8)} {vt : Value} (h : LnAt w g cs ls vt W) : Blk W g 57 cs := h.hd.blk 1 rfl
theorem LnAt.grow {w W W' : World} {g : Nat} {cs : List Value} {ls : List (List UInt8)} {vt v' : Value} (h : LnAt w g cs ls vt W) (t : List UInt8) (ho : W'.ownsRow w.heap.size 9 1 v' (ls.length + 1) (ls.map strV ++ [.string ⟨t.toArray⟩])) (hg : W.grownBy W' vt.ownBlock) (hv : v'.ownBlock = vt.ownBlock ∨ v'.ownBlock = some W.heap.size) : LnAt w g cs (ls ++ [t]) v' W' :=
  ⟨HeapD.grow (F := [blkD g 57 cs]) h.hd h.bel.size (by rw [List.length_append, List.length_singleton, List.map_append]; exact ho) hg hv, h.bel.grown hg h.bel.size (fun k e => (own_lt (h.hd.own 0 rfl) e).1)⟩
theorem HeapD.lit {base : Nat} {E : List Dep} {W : World} (h : HeapD base E W) (e : TypeId) (size : Nat) (cs : Array Value) (n : Nat) (hb : base ≤ W.heap.size) (hm : n ≤ maxLen) (hs : cs.size = n * size) : HeapD base (ownD base e size (.slice (some ⟨W.heap.size, 0, none⟩) n n) n cs.toList :: E) (W.alloc (.cells cs e)) :=
  h.made hb ((Below.refl W.heap.size W).alloc (Nat.le_refl _) _) (ownD base e size (.slice (some ⟨W.heap.size, 0, none⟩) n n) n cs.toList) (fun k hk => by
    have h2 : k = W.heap.size := by simpa [ownD, Value.ownBlock, eq_comm] using hk
    subst h2
    simp) (by simp [ownD, Value.ownBlock]) (World.ownsRow_lit W cs n hb hm hs)
theorem endT_le (a : AddrM) (port : Int) (h : port ≤ 65535) : (endT a port).length ≤ 60 := by
  have h1 := addrT_len a
  rw [endT]
  split
  · simp
  · have h2 := decT_len port.toNat 5 (by omega) (by omega)
    split
    · simp only [List.length_append, List.length_cons, List.length_nil]; omega
    · simp only [List.length_append, List.length_cons]; omega
theorem psT_le (al : List (AddrM × Int)) (hn : al.length ≤ 16) (hb : ∀ q ∈ al, q.2 ≤ 9223372036854775807) : (psT al).length ≤ 10000 := by
  have hj : ∀ ys : List (List UInt8), (∀ x ∈ ys, x.length ≤ 100) → (Lib.join ys [44, 32]).length ≤ 102 * ys.length := by
    intro ys
    induction ys with
    | nil => intro _; simp [Lib.join]
    | cons a r ih =>
      intro h2
      have ha := h2 a (List.mem_cons_self ..)
      have hr := ih fun x hx => h2 x (List.mem_cons_of_mem _ hx)
      cases r with
      | nil => simp [Lib.join]; omega
      | cons b r =>
        unfold Lib.join at hr ⊢
        rw [List.intercalate_cons_cons]
        simp only [List.length_append, List.length_cons, List.length_nil] at hr ⊢
        omega
  have := hj (al.map fun q => prefT q.1 q.2) (fun x hx => by
    obtain ⟨q, hq, rfl⟩ := List.mem_map.1 hx
    exact prefT_le _ _ (hb q hq))
  rw [List.length_map] at this
  rw [psT]
  omega
theorem formatInt_c (n : Int) (h0 : 0 ≤ n) (h1 : n ≤ 9223372036854775807) (w : World) (hlv : LvCf w) :
    Calls Tryz.prog 50 #[.int .i64 n, .int .i64 10] w fun e w' => e = .returned (.string ⟨(decT n.toNat).toArray⟩) ∧ Below w.heap.size w w' := by
  refine (sh_strconv_FormatInt_10 n (by omega) h1 w hlv.1).mono ?_
  rintro e w' ⟨rfl, k, os, rfl⟩
  rw [itoa_lib n h0]
  exact ⟨rfl, ⟨rfl, rfl, rfl, by simp [Go.Sort.grow], fun j hj => by simp [Go.Sort.grow, Array.getElem?_append_left hj]⟩⟩
theorem rightE_port {p : PeerM} (h : rightP p = true) (hb : p.hasE = true) : p.ep ≤ 65535 := by
  simp only [rightP, Bool.and_eq_true] at h
  have h1 := h.1.1
  rw [rightE, if_pos hb] at h1
  by_cases hc : p.ep ≤ 65535
  · exact hc
  · rw [endT, if_pos (.inr (.inr (by omega)))] at h1
    simp at h1
theorem rightK_le {p : PeerM} (h : rightP p = true) : 0 ≤ p.keep ∧ p.keep ≤ 1073741824 := by
  simp only [rightP, rightK, Bool.and_eq_true, Bool.or_eq_true, beq_iff_eq, decide_eq_true_eq] at h
  rcases h.1.2 with h | h
  · omega
  · omega
theorem str_one (t : List UInt8) : ∀ u ∈ [[Value.string ⟨t.toArray⟩]].flatten, u.oneCell' = true := by
  intro u hu
  have h2 : u = .string ⟨t.toArray⟩ := by simpa using hu
  subst h2
  rfl
theorem textL_len (k : List UInt8) (_h : k.length = 32) : (textL k).length ≤ 100 := by
  rw [textL_length]; omega
theorem peer_pubA {w : World} {g off : Nat} {p : PeerM} {v : Value} (h : At w g off (p.cells v)) : At w g off (p.pub.map u8v) := fun j u hj => h j u (by rw [PeerM.cells, List.getElem?_append_left (List.getElem?_eq_some_iff.1 hj).1]; exact hj)
theorem peer_sha {w : World} {g off : Nat} {p : PeerM} {v : Value} (h : At w g off (p.cells v)) (hp : p.ok) : At w g (off + 32) (p.sha.map u8v) := fun j u hj => by
  rw [Nat.add_assoc]
  refine h (32 + j) u ?_
  rw [PeerM.cells, List.getElem?_append_right (by rw [List.length_map, hp.1]; omega), List.length_map, hp.1, show 32 + j - 32 = j by omega, List.getElem?_append_left (List.getElem?_eq_some_iff.1 hj).1]
  exact hj
set_option maxRecDepth 100000 in
set_option maxHeartbeats 8000000 in
theorem peerLines_any (p : PeerM) (hp : p.ok) (hr : rightP p = true) (hal : p.al.length ≤ 16) (A : Option Addr) (c : Nat) (w : World) (hlv : LvCf w) (hpf : PfRd w w.heap.size A p.al.length p.al) :
    Calls Tryz.prog 25 #[.agg (p.cells (.slice A p.al.length c)).toArray] w fun e w' => ∃ v', e = .returned v' ∧ w'.ownsRow w.heap.size 9 1 v' (peerT p).length ((peerT p).map strV) ∧ Below w.heap.size w w' := by
  obtain ⟨i0, hti, hz0, hz1, hz2⟩ := info_parts (P := Tryz.prog) (e := 9) (z := .string ⟨#[]⟩) (size := 1) (bytes := 16) (by kernel_rfl)
  have HTI := Lib.hid (And.intro hti (And.intro hz0 (And.intro hz1 hz2)))
  have HP := Lib.hid (And.intro hp (And.intro hr hal))
  have HLV := Lib.hid hlv
  have HPF := Lib.hid hpf
  obtain ⟨cs, hcs⟩ : ∃ z, p.cells (.slice A p.al.length c) = z := ⟨_, rfl⟩
  have HCS := Lib.hid hcs
  rw [hcs]
  obtain ⟨ca, hca⟩ : ∃ z, cs.toArray = z := ⟨_, rfl⟩
  rw [hca]
  have hl0 : LnAt w w.heap.size cs [] (.slice none 0 0) (w.alloc (.cells ca 57)) := ⟨((HeapD.nil w.heap.size w).alloc (Nat.le_refl _) 57 ca cs hca.symm).made (by simp) (Below.refl _ _) (ownD w.heap.size 9 1 (.slice none 0 0) 0 []) (by simp [ownD, Value.ownBlock]) (by simp [ownD, Value.ownBlock]) (World.ownsRow_nil _ _ _ _), (Below.refl _ _).alloc (Nat.le_refl _) _⟩
  have HL0 := Lib.hid hl0
  obtain ⟨pc, hpc⟩ : ∃ z, (p.pub.map u8v).toArray = z := ⟨_, rfl⟩
  have HPC := Lib.hid hpc
  have HTX := Lib.hid (fun W => text_any p.pub hp.1 pc hpc.symm W)
  clear hti hz0 hz1 hz2 hp hr hal hlv hpf hcs hca hl0 hpc
  go_enter Tryz.func25, Tryz.ntmps25
  go_upto_region 1 with fail
  generalize w.alloc (.cells ca 57) = w1 at HL0 ⊢
  obtain ⟨g, hg⟩ : ∃ g, w.heap.size = g := ⟨_, rfl⟩
  have HG := Lib.hid hg
  rw [show LnAt w w.heap.size cs [] (.slice none 0 0) w1 = LnAt w g cs [] (.slice none 0 0) w1 from by rw [hg]] at HL0
  rw [hg]
  clear hg
  have HAT := Lib.hid (fun (W : World) (h : Blk W g 57 cs) => (show At W g 0 (p.cells (.slice A p.al.length c)) from by rw [HCS.out]; exact h.all))
  go_upto_region 2 with ((with_reducible refine at_op (.load 24 (.tmp 4)) rfl ?_); refine wpList_load_obj rfl 24 (.tmp 4) rfl g 0 rfl (p.pub.map u8v) (by simpa using peer_pubA (HAT.out _ HL0.out.blk)) _ Tryz.underlying24 rfl (key_cellsOf _ HP.out.1.1) ?_; rw [HPC.out])
  refine (HTX.out _).mono ?_
  rintro e w2 ⟨rfl, hb⟩
  have HL1 := Lib.hid (HL0.out.below hb)
  clear hb HL0 HTX
  have htl := textL_len p.pub HP.out.1.1
  obtain ⟨tp, htp⟩ : ∃ z, textL p.pub = z := ⟨_, rfl⟩
  have HTP := Lib.hid htp
  rw [htp] at htl ⊢
  clear htp
  go_upto_region 2 with fail
  refine (entry_any tPub tp (by decide) (by omega) _).mono ?_
  rintro e w3 ⟨rfl, rfl⟩
  obtain ⟨t1, ht1⟩ : ∃ z, entT tPub tp = z := ⟨_, rfl⟩
  have HT1 := Lib.hid ht1
  rw [ht1]
  clear ht1 htl
  go_upto_region 2 with fail
  have hal := (Below.refl w3.heap.size w3).alloc (Nat.le_refl _) (.cells #[.string ⟨#[]⟩, .string ⟨#[91, 80, 101, 101, 114, 93]⟩, .string ⟨t1.toArray⟩] 9)
  have HL2 := Lib.hid (show LnAt w g cs [[], tPeer, t1] (.slice (some ⟨w3.heap.size, 0, none⟩) 3 3) (w3.alloc (.cells #[.string ⟨#[]⟩, .string ⟨#[91, 80, 101, 101, 114, 93]⟩, .string ⟨t1.toArray⟩] 9)) from
    ⟨HL1.out.hd.drop.lit 9 1 #[.string ⟨#[]⟩, .string ⟨#[91, 80, 101, 101, 114, 93]⟩, .string ⟨t1.toArray⟩] 3 HL1.out.bel.size (by unfold maxLen; omega) rfl, HL1.out.bel.trans (hal.mono HL1.out.bel.size)⟩)
  generalize w3.alloc (.cells #[.string ⟨#[]⟩, .string ⟨#[91, 80, 101, 101, 114, 93]⟩, .string ⟨t1.toArray⟩] 9) = w4 at HL2 ⊢
  generalize Value.slice (some ⟨w3.heap.size, 0, none⟩) 3 3 = v4 at HL2 ⊢
  clear hal HL1
  obtain ⟨ls, hls⟩ : ∃ z, [[], tPeer, t1] = z := ⟨_, rfl⟩
  rw [hls] at HL2
  have HLS := Lib.hid hls
  have HLL := Lib.hid (show ls.length ≤ 7 from by rw [← hls]; simp)
  have HL := Lib.hid HL2.out
  clear hls HL2
  obtain ⟨x2, hx2⟩ : ∃ z, (if p.sha = List.replicate 32 0 then [] else [entT tSha (textL p.sha)]) = z := ⟨_, rfl⟩
  have HX := Lib.hid hx2
  have HXL := Lib.hid (show x2.length ≤ 1 from by rw [← hx2]; split <;> simp)
  obtain ⟨sc, hsc⟩ : ∃ z, (p.sha.map u8v).toArray = z := ⟨_, rfl⟩
  obtain ⟨zk, hzk⟩ : ∃ z, ((List.replicate 32 (0 : UInt8)).map u8v).toArray = z := ⟨_, rfl⟩
  have HSC := Lib.hid hsc
  have HBZ := Lib.hid (show Tryz.prog.built 24 [] = some zk from by rw [← hzk]; kernel_rfl)
  have heq := fun W => key_eq p.sha (List.replicate 32 0) HP.out.1.2.1 (by simp) W
  rw [hsc, hzk] at heq
  have htx := fun W => text_any p.sha HP.out.1.2.1 sc hsc.symm W
  have HTX := Lib.hid htx
  have hed : ∃ b, decide (p.sha = List.replicate 32 0) = b := ⟨_, rfl⟩
  obtain ⟨b, hb⟩ := hed
  rw [hb] at heq
  have HEQ := Lib.hid heq
  have HB := Lib.hid hb
  clear hx2 hsc hzk heq htx hb
  go_upto_if 12 with (first | ((with_reducible refine at_op (.load 24 (.tmp 9)) rfl ?_); refine wpList_load_obj rfl 24 (.tmp 9) rfl g 32 rfl (p.sha.map u8v) (by simpa using peer_sha (HAT.out _ HL.out.blk) HP.out.1) _ Tryz.underlying24 rfl (key_cellsOf _ HP.out.1.2.1) ?_; rw [HSC.out]) | (refine wpList_build_as rfl 24 [] rfl zk ?_ ?_; exact HBZ.out) | (refine wpList_neq_agg (by rfl) 24 24 10 11 rfl sc zk b rfl rfl key_noguard (HEQ.out _) ?_))
  (try simp only [Act.put, List.setIfInBounds_toArray, List.set_cons_zero, List.set_cons_succ])
  go_cut [3] (fun v3 wx => LnAt w g cs (ls ++ x2) v3 wx)
  case first =>
    cases b with
    | true =>
      have HEE := Lib.hid (show x2 = [] from by rw [← HX.out, if_pos (of_decide_eq_true HB.out)])
      go_wp2_with fail
      go_meet
      rw [HEE.out, List.append_nil]; exact HL.out
    | false =>
      have HNE := Lib.hid (show ¬ p.sha = List.replicate 32 0 from of_decide_eq_false HB.out)
      go_wp2_with ((with_reducible refine at_op (.load 24 (.tmp 14)) rfl ?_); refine wpList_load_obj rfl 24 (.tmp 14) rfl g 32 rfl (p.sha.map u8v) (by simpa using peer_sha (HAT.out _ HL.out.blk) HP.out.1) _ Tryz.underlying24 rfl (key_cellsOf _ HP.out.1.2.1) ?_; rw [HSC.out])
      refine (HTX.out _).mono ?_
      rintro e w5 ⟨rfl, hb5⟩
      replace HL := Lib.hid (HL.out.below hb5)
      have htl := textL_len p.sha HP.out.1.2.1
      clear hb5
      go_wp2_with fail
      refine (entry_any tSha (textL p.sha) (by decide) (by omega) _).mono ?_
      rintro e wq ⟨rfl, rfl⟩
      obtain ⟨t, ht⟩ : ∃ z, entT tSha (textL p.sha) = z := ⟨_, rfl⟩
      have HT := Lib.hid ht
      rw [ht]
      have HRW := Lib.hid (show RdRow (wq.alloc (.cells #[.string ⟨t.toArray⟩] 9)) (wq.alloc (.cells #[.string ⟨t.toArray⟩] 9)).heap.size (some ⟨wq.heap.size, 0, none⟩) 1 1 [[.string ⟨t.toArray⟩]] from blk_row (t := 9) (rest := []) (by simpa using Blk.new wq 9 [.string ⟨t.toArray⟩]) (by simp) rfl)
      clear ht htl
      go_wp2_with (at_builtin; refine wpList_append_rows _ rfl (.tmp 13) (.tmp 18) 43 rfl w.heap.size 9 i0 (.string ⟨#[]⟩) 1 16 Tryz.underlying43 HTI.out.1 HTI.out.2.1 HTI.out.2.2.1 HTI.out.2.2.2 (by rfl) (by decide) _ ls.length _ rfl ((HL.out.hd.own 0 rfl).alloc _) _ _ 1 1 [[.string ⟨t.toArray⟩]] rfl HRW.out (str_one t) (by have := HLL.out; unfold maxLen; omega) (by have := HLL.out; omega) (by have := HL.out.bel.size; simp; omega) ?_; intro v2 w9 ho2 hg2 hv2)
      have hl9 := (HL.out.below ((Below.refl _ _).alloc (Nat.le_refl _) _)).grow t ho2 hg2 hv2
      go_meet
      rw [← HX.out, if_neg HNE.out, HT.out]
      exact hl9
  have HL3 := Lib.hid hcut
  have HXA := HX
  have HLL3 := Lib.hid (show (ls ++ x2).length ≤ 8 from by rw [List.length_append]; have := HLL.out; have := HXL.out; omega)
  clear hcut HL HX HLL HXL HTX HEQ HB HBZ HSC
  obtain ⟨ls, hls⟩ : ∃ z, ls ++ x2 = z := ⟨_, rfl⟩
  rw [hls] at HL3 HLL3
  have HL := HL3
  have HLL := HLL3
  have HLS3 := Lib.hid hls
  clear hls HL3 HLL3
  obtain ⟨x3, hx⟩ : ∃ z, (if p.hasE then [entT tEnd (endT p.ea p.ep)] else []) = z := ⟨_, rfl⟩
  have HX := Lib.hid hx
  have HXL := Lib.hid (show x3.length ≤ 1 from by rw [← hx]; split <;> simp)
  clear hx
  have fo := peer_has (HAT.out _ HL.out.blk) HP.out.1
  rw [Nat.zero_add] at fo
  obtain ⟨b, hb⟩ : ∃ b, p.hasE = b := ⟨_, rfl⟩
  rw [hb] at fo
  have HB := Lib.hid hb
  clear hb
  go_upto_if 21 with fail
  clear fo
  go_cut [3] (fun v3 wx => LnAt w g cs (ls ++ x3) v3 wx)
  case first =>
    cases b with
    | false =>
      have HEE := Lib.hid (show x3 = [] from by rw [← HX.out, HB.out]; rfl)
      go_wp2_with fail
      go_meet
      rw [HEE.out, List.append_nil]; exact HL.out
    | true =>
      obtain ⟨ec, hec⟩ : ∃ z, (prefC p.ea p.ep).toArray = z := ⟨_, rfl⟩
      have hep := rightE_port HP.out.2.1 HB.out
      have htl := endT_le p.ea p.ep hep
      have HFE := Lib.hid (fun W hW => cfFmtEndC p.ea HP.out.1.2.2.1 p.ep HP.out.1.2.2.2.1.1 HP.out.1.2.2.2.1.2 W hW)
      rw [hec] at HFE
      have HEC := Lib.hid hec
      obtain ⟨te, hte⟩ : ∃ z, endT p.ea p.ep = z := ⟨_, rfl⟩
      rw [hte] at HFE htl HX
      clear hec hep hte
      go_wp2_with ((with_reducible refine at_op (.load 55 (.tmp 23)) rfl ?_); refine wpList_load_obj rfl 55 (.tmp 23) rfl g 65 rfl (prefC p.ea p.ep) (by simpa using peer_end (HAT.out _ HL.out.blk) HP.out.1) _ Tryz.underlying55 rfl (end_cellsOf p.ea HP.out.1.2.2.1 p.ep) ?_; rw [HEC.out])
      refine (HFE.out _ (HLV.out.below HL.out.bel)).mono ?_
      rintro e w5 ⟨rfl, hb5⟩
      replace HL := Lib.hid (HL.out.below hb5)
      clear hb5 HFE
      go_wp2_with fail
      refine (entry_any tEnd te (by decide) (by omega) _).mono ?_
      rintro e wq ⟨rfl, rfl⟩
      obtain ⟨t, ht⟩ : ∃ z, entT tEnd te = z := ⟨_, rfl⟩
      have HT := Lib.hid ht
      rw [ht]
      have HRW := Lib.hid (show RdRow (wq.alloc (.cells #[.string ⟨t.toArray⟩] 9)) (wq.alloc (.cells #[.string ⟨t.toArray⟩] 9)).heap.size (some ⟨wq.heap.size, 0, none⟩) 1 1 [[.string ⟨t.toArray⟩]] from blk_row (t := 9) (rest := []) (by simpa using Blk.new wq 9 [.string ⟨t.toArray⟩]) (by simp) rfl)
      clear ht htl
      go_wp2_with (at_builtin; refine wpList_append_rows _ rfl (.tmp 22) (.tmp 27) 43 rfl w.heap.size 9 i0 (.string ⟨#[]⟩) 1 16 Tryz.underlying43 HTI.out.1 HTI.out.2.1 HTI.out.2.2.1 HTI.out.2.2.2 (by rfl) (by decide) _ ls.length _ rfl ((HL.out.hd.own 0 rfl).alloc _) _ _ 1 1 [[.string ⟨t.toArray⟩]] rfl HRW.out (str_one t) (by have := HLL.out; unfold maxLen; omega) (by have := HLL.out; omega) (by have := HL.out.bel.size; simp; omega) ?_; intro v2 w9 ho2 hg2 hv2)
      have hl9 := (HL.out.below ((Below.refl _ _).alloc (Nat.le_refl _) _)).grow t ho2 hg2 hv2
      go_meet
      rw [← HX.out, if_pos HB.out, HT.out]
      exact hl9
  have HL4 := Lib.hid hcut
  have HX3 := HX
  have HLL4 := Lib.hid (show (ls ++ x3).length ≤ 9 from by rw [List.length_append]; have := HLL.out; have := HXL.out; omega)
  clear hcut HL HX HLL HXL
  obtain ⟨ls, hls⟩ : ∃ z, ls ++ x3 = z := ⟨_, rfl⟩
  rw [hls] at HL4 HLL4
  have HL := HL4
  have HLL := HLL4
  have HLS4 := Lib.hid hls
  clear hls HL4 HLL4
  obtain ⟨x4, hx⟩ : ∃ z, (if p.keep = 0 then [] else [entT tKeep (decT p.keep.toNat)]) = z := ⟨_, rfl⟩
  have HX := Lib.hid hx
  have HXL := Lib.hid (show x4.length ≤ 1 from by rw [← hx]; split <;> simp)
  clear hx
  have fo := peer_keep (HAT.out _ HL.out.blk) HP.out.1
  rw [Nat.zero_add] at fo
  obtain ⟨kp, hkp⟩ : ∃ z, p.keep = z := ⟨_, rfl⟩
  rw [hkp] at fo HX
  have HKR := Lib.hid (show 0 ≤ kp ∧ kp ≤ 1073741824 from by rw [← hkp]; exact rightK_le HP.out.2.1)
  have HKP := Lib.hid hkp
  clear hkp
  go_upto_if 31 with fail
  clear fo
  obtain ⟨b, hb⟩ : ∃ b, (kp != 0) = b := ⟨_, rfl⟩
  rw [hb]
  have HB := Lib.hid hb
  clear hb
  go_cut [3] (fun v3 wx => LnAt w g cs (ls ++ x4) v3 wx)
  case first =>
    cases b with
    | false =>
      have HEE := Lib.hid (show x4 = [] from by rw [← HX.out, if_pos (by simpa using HB.out)])
      go_wp2_with fail
      go_meet
      rw [HEE.out, List.append_nil]; exact HL.out
    | true =>
      have HNE := Lib.hid (show ¬ kp = 0 from by simpa using HB.out)
      have fo := peer_keep (HAT.out _ HL.out.blk) HP.out.1
      rw [Nat.zero_add, HKP.out] at fo
      have htl := decT_len kp.toNat 10 (by omega) (by have := HKR.out; omega)
      have HFI := Lib.hid (fun W hW => formatInt_c kp HKR.out.1 (by have := HKR.out; omega) W hW)
      obtain ⟨tk, htk⟩ : ∃ z, decT kp.toNat = z := ⟨_, rfl⟩
      rw [htk] at HFI htl HX
      clear htk
      go_wp2_with fail
      refine (HFI.out _ (HLV.out.below HL.out.bel)).mono ?_
      rintro e w5 ⟨rfl, hb5⟩
      replace HL := Lib.hid (HL.out.below hb5)
      clear hb5 HFI fo
      go_wp2_with fail
      refine (entry_any tKeep tk (by decide) (by omega) _).mono ?_
      rintro e wq ⟨rfl, rfl⟩
      obtain ⟨t, ht⟩ : ∃ z, entT tKeep tk = z := ⟨_, rfl⟩
      have HT := Lib.hid ht
      rw [ht]
      have HRW := Lib.hid (show RdRow (wq.alloc (.cells #[.string ⟨t.toArray⟩] 9)) (wq.alloc (.cells #[.string ⟨t.toArray⟩] 9)).heap.size (some ⟨wq.heap.size, 0, none⟩) 1 1 [[.string ⟨t.toArray⟩]] from blk_row (t := 9) (rest := []) (by simpa using Blk.new wq 9 [.string ⟨t.toArray⟩]) (by simp) rfl)
      clear ht htl
      go_wp2_with (at_builtin; refine wpList_append_rows _ rfl (.tmp 32) (.tmp 37) 43 rfl w.heap.size 9 i0 (.string ⟨#[]⟩) 1 16 Tryz.underlying43 HTI.out.1 HTI.out.2.1 HTI.out.2.2.1 HTI.out.2.2.2 (by rfl) (by decide) _ ls.length _ rfl ((HL.out.hd.own 0 rfl).alloc _) _ _ 1 1 [[.string ⟨t.toArray⟩]] rfl HRW.out (str_one t) (by have := HLL.out; unfold maxLen; omega) (by have := HLL.out; omega) (by have := HL.out.bel.size; simp; omega) ?_; intro v2 w9 ho2 hg2 hv2)
      have hl9 := (HL.out.below ((Below.refl _ _).alloc (Nat.le_refl _) _)).grow t ho2 hg2 hv2
      go_meet
      rw [← HX.out, if_neg HNE.out, HT.out]
      exact hl9
  have HL5 := Lib.hid hcut
  have HX4 := HX
  have HLL5 := Lib.hid (show (ls ++ x4).length ≤ 10 from by rw [List.length_append]; have := HLL.out; have := HXL.out; omega)
  clear hcut HL HX HLL HXL
  obtain ⟨ls, hls⟩ : ∃ z, ls ++ x4 = z := ⟨_, rfl⟩
  rw [hls] at HL5 HLL5
  have HL := HL5
  have HLL := HLL5
  have HLS5 := Lib.hid hls
  clear hls HL5 HLL5
  obtain ⟨x5, hx⟩ : ∃ z, (if p.al.length = 0 then [] else [entT tAll (psT p.al)]) = z := ⟨_, rfl⟩
  have HX := Lib.hid hx
  have HXL := Lib.hid (show x5.length ≤ 1 from by rw [← hx]; split <;> simp)
  clear hx
  have fo : wc.cell? ⟨g, 84, none⟩ = some (.slice A p.al.length c) := peer_al (p := p) (v := .slice A p.al.length c) (by rw [HCS.out]; exact HL.out.blk) HP.out.1
  have HFIN := Lib.hid (show peerT p = ls ++ x5 from by
    rw [← HX.out, ← HLS5.out, ← HLS4.out, ← HLS3.out, ← HLS.out, ← HX4.out, ← HX3.out, ← HXA.out, ← HT1.out, ← HTP.out, ← HKP.out]
    simp [peerT, List.append_assoc])
  have HFP := Lib.hid (fun W (hW : Below w.heap.size w W) (h0 : 0 < p.al.length) => formatPrefixes_any A p.al.length c p.al W (HLV.out.below hW) ⟨(HPF.out.1.below hW).mono hW.size, HPF.out.2⟩ (by have := HP.out.2.2; omega) h0)
  obtain ⟨n, hn⟩ : ∃ z, p.al.length = z := ⟨_, rfl⟩
  have hpl : (psT p.al).length ≤ 10000 := psT_le p.al (by have := HP.out.2.2; omega) (fun q hq => (HP.out.1.2.2.2.2.2 q hq).2.2)
  rw [hn] at fo HX HFP
  obtain ⟨ta, hta⟩ : ∃ z, psT p.al = z := ⟨_, rfl⟩
  rw [hta] at hpl HX HFP
  have HPLL := Lib.hid hpl
  clear hn hta hpl
  by_cases h0 : 0 < n
  · have d1 : decide ((n : Int) > 0) = true := by simp; omega
    have HNE := Lib.hid (show ¬ n = 0 from by omega)
    have HH0 := Lib.hid h0
    have HFQ := Lib.hid (fun W hW => HFP.out W hW h0)
    clear HFP
    go_wp2_with fail
    refine (HFQ.out _ HL.out.bel).mono ?_
    rintro e w5 ⟨rfl, hb5⟩
    replace HL := Lib.hid (HL.out.below hb5)
    have htl := HPLL.out
    clear hb5 HFQ fo d1 h0
    go_wp2_with fail
    refine (entry_any tAll ta (by decide) (by omega) _).mono ?_
    rintro e wq ⟨rfl, rfl⟩
    obtain ⟨t, ht⟩ : ∃ z, entT tAll ta = z := ⟨_, rfl⟩
    have HT := Lib.hid ht
    rw [ht]
    have HRW := Lib.hid (show RdRow (wq.alloc (.cells #[.string ⟨t.toArray⟩] 9)) (wq.alloc (.cells #[.string ⟨t.toArray⟩] 9)).heap.size (some ⟨wq.heap.size, 0, none⟩) 1 1 [[.string ⟨t.toArray⟩]] from blk_row (t := 9) (rest := []) (by simpa using Blk.new wq 9 [.string ⟨t.toArray⟩]) (by simp) rfl)
    clear ht htl
    go_wp2_with (at_builtin; refine wpList_append_rows _ rfl (.tmp 43) (.tmp 48) 43 rfl w.heap.size 9 i0 (.string ⟨#[]⟩) 1 16 Tryz.underlying43 HTI.out.1 HTI.out.2.1 HTI.out.2.2.1 HTI.out.2.2.2 (by rfl) (by decide) _ ls.length _ rfl ((HL.out.hd.own 0 rfl).alloc _) _ _ 1 1 [[.string ⟨t.toArray⟩]] rfl HRW.out (str_one t) (by have := HLL.out; unfold maxLen; omega) (by have := HLL.out; omega) (by have := HL.out.bel.size; simp; omega) ?_; intro v2 w9 ho2 hg2 hv2)
    have HL9 := Lib.hid ((HL.out.below ((Below.refl _ _).alloc (Nat.le_refl _) _)).grow t ho2 hg2 hv2)
    have HX9 := Lib.hid (show x5 = [t] from by rw [← HX.out, if_neg HNE.out, HT.out])
    clear ho2 hg2 hv2 HL HRW
    go_wp2
    go_ret
    have h9 := HL9.out
    rw [← HX9.out, ← HFIN.out] at h9
    exact ⟨_, rfl, h9.hd.own 0 rfl, h9.bel⟩
  · obtain rfl : n = 0 := by omega
    have d1 : decide (((0 : Nat) : Int) > 0) = false := by decide
    have HX9 := Lib.hid (show x5 = [] from by rw [← HX.out, if_pos rfl])
    clear HFP
    go_wp2_with fail
    go_ret
    have h9 := HL.out
    rw [← List.append_nil ls, ← HX9.out, ← HFIN.out] at h9
    exact ⟨_, rfl, h9.hd.own 0 rfl, h9.bel⟩
end Go.Proofs.YtcbfchkhbngpkaaGreatDoor
namespace Go.Proofs.YtcbfchkhbngpkaaGreatDoor
open Go.RowKit

theorem joinT_le (ch : UInt8) : ∀ ys : List (List UInt8), (∀ x ∈ ys, x.length ≤ 11000) → (joinT ch ys).length ≤ 11001 * ys.length := by
  intro ys
  induction ys with
  | nil => intro _; simp [joinT]
  | cons a r ih =>
    intro h2
    have ha := h2 a (List.mem_cons_self ..)
    cases r with
    | nil => simp only [joinT, List.length_cons, List.length_nil]; omega
    | cons b r =>
      have := ih (fun x hx => h2 x (List.mem_cons_of_mem _ hx))
      simp only [joinT, List.length_append, List.length_cons] at this ⊢
      omega
theorem alls_mem {p : PeerM} : ∀ {l : List PeerM}, p ∈ l → p.al.length ≤ (l.flatMap fun p => p.al).length
  | q :: r, h => by
    rw [List.flatMap_cons, List.length_append]
    rcases List.mem_cons.1 h with rfl | h
    · omega
    · have := alls_mem h
      omega
theorem validE_zero {x : ConfM} (h : validE x = 0) : (0 ≤ x.port ∧ x.port ≤ 65535) ∧ x.peers.length ≤ 8 ∧ (∀ p ∈ x.peers, p.al.length ≤ 16) ∧ ∀ p ∈ x.peers, rightP p = true := by
  unfold validE at h
  split at h
  · cases h
  · rename_i h1
    split at h
    · cases h
    · rename_i h2
      simp only [not_or, Int.not_lt, Nat.not_lt] at h1 h2
      have h3 : x.peers.all rightP = true := by
        have := h2.2.2
        simpa using this
      refine ⟨⟨h2.1, h2.2.1⟩, h1.1, fun p hp => ?_, List.all_eq_true.1 h3⟩
      refine Nat.le_trans ?_ h1.2
      rw [allP]
      exact alls_mem hp
theorem flat_one : ∀ l : List (List UInt8), (l.map fun t => [strV t]).flatten = l.map strV
  | [] => rfl
  | a :: r => by rw [List.map_cons, List.flatten_cons, flat_one r]; rfl
theorem peerT_le (p : PeerM) : (peerT p).length ≤ 7 := by
  simp only [peerT, List.length_cons, List.length_append]
  split <;> split <;> split <;> split <;> simp
theorem lines_le : ∀ l : List PeerM, (l.flatMap peerT).length ≤ 7 * l.length
  | [] => by simp
  | p :: r => by
    have := lines_le r
    have := peerT_le p
    rw [List.flatMap_cons, List.length_append, List.length_cons]
    omega
theorem strs_one (l : List (List UInt8)) : ∀ u ∈ (l.map fun t => [strV t]).flatten, u.oneCell' = true := by
  rw [flat_one]
  intro u hu
  obtain ⟨t, _, rfl⟩ := List.mem_map.1 hu
  rfl
theorem entT_len (a b : List UInt8) (ha : a.length ≤ 20) (hb : b.length ≤ 10000) : (entT a b).length ≤ 11000 := by
  rw [entT]
  simp only [List.length_append, List.length_cons, List.length_nil]
  omega
theorem peerT_each {p : PeerM} (hp : p.ok) (hr : rightP p = true) (hal : p.al.length ≤ 16) : ∀ t ∈ peerT p, t.length ≤ 11000 := by
  intro t ht
  simp only [peerT, List.mem_cons, List.mem_append] at ht
  rcases ht with rfl | rfl | rfl | ht | ht | ht | ht
  · simp
  · decide
  · exact entT_len _ _ (by decide) (Nat.le_trans (textL_len _ hp.1) (by omega))
  · split at ht
    · cases ht
    · rw [List.mem_singleton] at ht
      subst ht
      exact entT_len _ _ (by decide) (Nat.le_trans (textL_len _ hp.2.1) (by omega))
  · split at ht
    · rename_i hb
      rw [List.mem_singleton] at ht
      subst ht
      exact entT_len _ _ (by decide) (Nat.le_trans (endT_le _ _ (rightE_port hr hb)) (by omega))
    · cases ht
  · split at ht
    · cases ht
    · rw [List.mem_singleton] at ht
      subst ht
      have := rightK_le hr
      exact entT_len _ _ (by decide) (Nat.le_trans (decT_len _ 10 (by omega) (by omega)) (by omega))
  · split at ht
    · cases ht
    · rw [List.mem_singleton] at ht
      subst ht
      exact entT_len _ _ (by decide) (psT_le _ hal (fun q hq => (hp.2.2.2.2.2 q hq).2.2))
theorem confT_each {x : ConfM} (hx : x.ok) (hq : 0 ≤ x.port ∧ x.port ≤ 65535) (hal : ∀ p ∈ x.peers, p.al.length ≤ 16) (hr : ∀ p ∈ x.peers, rightP p = true) : ∀ t ∈ confT x, t.length ≤ 11000 := by
  intro t ht
  simp only [confT, List.mem_cons, List.mem_flatMap] at ht
  rcases ht with rfl | rfl | rfl | ⟨p, hp, ht⟩
  · decide
  · exact entT_len _ _ (by decide) (Nat.le_trans (textL_len _ hx.1) (by omega))
  · exact entT_len _ _ (by decide) (Nat.le_trans (decT_len _ 10 (by omega) (by omega)) (by omega))
  · exact peerT_each (hx.2.2 p hp) (hr p hp) (hal p hp) t ht
theorem joinN_c (g c : Nat) (xs : List (List UInt8)) (ch : UInt8) (w : World) (h : At w g 0 (xs.map strV)) (hg : g < w.heap.size) (hn : xs.length ≤ 1000) (hl : ∀ x ∈ xs, x.length ≤ 11000) (hc : xs.length ≤ c) :
    Calls Tryz.prog 26 #[.slice (some ⟨g, 0, none⟩) xs.length c, .string ⟨#[ch]⟩] w fun e w' => e = .returned (.string ⟨(joinT ch xs).toArray⟩) ∧ Below w.heap.size w w' := by
  have e1 : (xs.map fun l => ByteArray.mk l.toArray).length = xs.length := by simp
  have e2 : (xs.map fun l => ByteArray.mk l.toArray).map (·.data.toList) = xs := by rw [List.map_map]; exact (List.map_congr_left fun l _ => mk_data l).trans (List.map_id _)
  have e3 : Lib.join ((xs.map fun l => ByteArray.mk l.toArray).map (·.data.toList)) (ByteArray.mk #[ch]).data.toList = joinT ch xs := by rw [e2]; exact join_lib ch xs
  have hj := joinT_le ch xs hl
  have hc2 := sh_strings_Join g 0 c (xs.map fun l => ByteArray.mk l.toArray) ⟨#[ch]⟩ w (fun j x hx => h j (.string x) (by
    rw [List.getElem?_map] at hx ⊢
    cases hq : xs[j]? with
    | none => rw [hq] at hx; cases hx
    | some y =>
      rw [hq] at hx
      rw [← Option.some.inj hx]; rfl)) hg (by rw [e1]; omega) (by rw [e1]; exact hc) (by rw [e3]; omega)
  rw [e3, e1] at hc2
  exact hc2
theorem conf_priv {w : World} {g : Nat} {x : ConfM} {v : Value} (h : At w g 0 (x.cells v)) : At w g 0 (x.priv.map u8v) := fun j u hj => h j u (by rw [ConfM.cells, List.getElem?_append_left (List.getElem?_eq_some_iff.1 hj).1]; exact hj)
theorem conf_port2 {w : World} {g : Nat} {x : ConfM} {v : Value} (h : At w g 0 (x.cells v)) (hx : x.ok) : w.cell? ⟨g, 32, none⟩ = some (.int .i64 x.port) := by
  have h2 := h 32 (.int .i64 x.port) (by rw [ConfM.cells, List.getElem?_append_right (by rw [List.length_map, hx.1]; decide), List.length_map, hx.1]; rfl)
  simpa using h2
theorem conf_peers2 {w : World} {g : Nat} {x : ConfM} {v : Value} (h : At w g 0 (x.cells v)) (hx : x.ok) : w.cell? ⟨g, 33, none⟩ = some v := by
  have h2 := h 33 v (by rw [ConfM.cells, List.getElem?_append_right (by rw [List.length_map, hx.1]; decide), List.length_map, hx.1]; rfl)
  simpa using h2
set_option maxRecDepth 100000 in
set_option maxHeartbeats 8000000 in
theorem format_any (x : ConfM) (A : Option Addr) (n cap : Nat) (w : World) (hc : x.ok) (hr : PeRd w w.heap.size A n x.peers) (hn : n ≤ 1000) (ha : ∀ p ∈ x.peers, p.al.length ≤ 1000) (hlv : LvCf w) :
    Calls Tryz.prog 9 #[.agg (x.cells (.slice A n cap)).toArray] w fun e w' => e = .returned (.tuple #[.string ⟨(if validE x = 0 then fmtM x else []).toArray⟩, .int .i64 (validE x : Int)]) ∧ Below w.heap.size w w' := by
  obtain ⟨i0, hti, hz0, hz1, hz2⟩ := info_parts (P := Tryz.prog) (e := 9) (z := .string ⟨#[]⟩) (size := 1) (bytes := 16) (by kernel_rfl)
  have HTI := Lib.hid (And.intro hti (And.intro hz0 (And.intro hz1 hz2)))
  have HC := Lib.hid hc
  have HR := Lib.hid hr
  have HLV := Lib.hid hlv
  have hva := fun W (hb : Below w.heap.size w W) => validate_any x A n cap W hc ((hr.below hb).mono hb.size) hn ha (hlv.below hb)
  have hu := conf_cellsOf x hc (.slice A n cap)
  obtain ⟨vE, hvE⟩ : ∃ z, validE x = z := ⟨_, rfl⟩
  obtain ⟨tx, htx0⟩ : ∃ z, (if validE x = 0 then fmtM x else []) = z := ⟨_, rfl⟩
  rw [htx0]
  rw [hvE] at hva ⊢
  have HVE := Lib.hid hvE
  have HTX0 := Lib.hid htx0
  clear hvE htx0
  obtain ⟨cs, hcs⟩ : ∃ z, x.cells (.slice A n cap) = z := ⟨_, rfl⟩
  have HCS := Lib.hid hcs
  rw [hcs] at hva hu ⊢
  obtain ⟨ca, hca⟩ : ∃ z, cs.toArray = z := ⟨_, rfl⟩
  rw [hca] at hva ⊢
  have HCA := Lib.hid hca
  have HVA := Lib.hid hva
  have HU := Lib.hid hu
  have hb0 := (Below.refl w.heap.size w).alloc (Nat.le_refl _) (.cells ca 27)
  have HB0 := Lib.hid hb0
  have HK0 := Lib.hid (show Blk (w.alloc (.cells ca 27)) w.heap.size 27 cs from by rw [← hca]; exact Blk.new w 27 cs)
  have HLV1 := Lib.hid (hlv.below hb0)
  clear hti hz0 hz1 hz2 hc hr hlv hva hu hcs hca hb0 hn ha
  go_enter Tryz.func9, Tryz.ntmps9
  go_upto_region 1 with fail
  generalize w.alloc (.cells ca 27) = w1 at HB0 HK0 HLV1 ⊢
  obtain ⟨g, hg⟩ : ∃ g, w.heap.size = g := ⟨_, rfl⟩
  have HG := Lib.hid hg
  have HKG := Lib.hid (show Blk w1 g 27 cs from by rw [← hg]; exact HK0.out)
  rw [hg]
  clear hg HK0
  have HAT := Lib.hid (fun (W : World) (h : Below w1.heap.size w1 W) => (show At W g 0 (x.cells (.slice A n cap)) from by rw [HCS.out]; exact (HKG.out.below h HKG.out.lt).all))
  go_wp2_with ((with_reducible refine at_op (.load 27 (.tmp 1)) rfl ?_); refine wpList_load_obj rfl 27 (.tmp 1) rfl g 0 rfl cs HKG.out.all _ Tryz.underlying27 rfl HU.out ?_; rw [HCA.out])
  refine (HVA.out _ HB0.out).mono ?_
  rintro e w2 ⟨rfl, hb⟩
  have HB1 := Lib.hid (show Below w1.heap.size w1 w2 from hb)
  clear hb HVA
  by_cases hv : vE = 0
  · obtain rfl := hv
    have HV := HVE
    have HTF := Lib.hid (show tx = fmtM x from by rw [← HTX0.out, if_pos HV.out])
    clear HTX0
    obtain ⟨pc, hpc⟩ : ∃ z, (x.priv.map u8v).toArray = z := ⟨_, rfl⟩
    have HPC := Lib.hid hpc
    have htx := fun W => text_any x.priv HC.out.1 pc hpc.symm W
    have htl := textL_len x.priv HC.out.1
    obtain ⟨tp, htp⟩ : ∃ z, textL x.priv = z := ⟨_, rfl⟩
    rw [htp] at htx htl
    have HTX := Lib.hid htx
    have HTL := Lib.hid htl
    have HTP := Lib.hid htp
    obtain ⟨hpo, hpn, hpa, hpr⟩ := validE_zero HV.out
    have hit := fun W hW => itoa_c x.port (by omega) (by omega) W hW
    have hdl := decT_len x.port.toNat 10 (by omega) (by omega)
    obtain ⟨td, htd⟩ : ∃ z, decT x.port.toNat = z := ⟨_, rfl⟩
    rw [htd] at hit hdl
    have HIT := Lib.hid hit
    have HDL := Lib.hid hdl
    have HTD := Lib.hid htd
    have HVV := Lib.hid (And.intro hpn (And.intro hpa hpr))
    clear hpc htx htl htp hpo hpn hpa hpr hit hdl htd
    have d0 : (((0 : Nat) : Int) != 0) = false := by decide
    go_upto_region 4 with fail
    clear d0
    go_cut [5] (fun v5 wx => ∃ t1 t2, t1 = entT tPriv tp ∧ t2 = entT tPort td ∧ wx.ownsRow w.heap.size 9 1 v5 3 [strV tIface, strV t1, strV t2] ∧ Below w1.heap.size w1 wx)
    case first =>
      refine wp_region_held_drew (S := fun W' => Below w1.heap.size w1 W') (by kernel_rfl) (HB1.out.trans ((Below.refl _ _).drew.mono HB1.out.size)) (fun hHeld => ?_)
      generalize w2.drew = wd at hHeld ⊢
      refine take_first (v := ?_) 0 rfl (by kernel_rfl) (by kernel_rfl) (by kernel_rfl) (fun _ _ _ h => h) (Or.inl ⟨by rfl, ?_⟩) (by assumption) ?_
      rotate_left
      · (intro w hSw; (try dsimp only at hSw); go_simp; try with_reducible rfl)
      (try simp only [Act.put, List.setIfInBounds_toArray, List.set_cons_zero, List.set_cons_succ])
      refine take_first (v := .agg pc) 1 rfl (by kernel_rfl) (by kernel_rfl) (by kernel_rfl) (fun _ _ _ h => h) (by rw [← HPC.out]; exact yields_load_obj (by rfl) 24 (.tmp 13) rfl g 0 rfl _ (fun W hW => conf_priv (HAT.out W hW)) _ Tryz.underlying24 rfl (key_cellsOf _ HC.out.1)) (by assumption) ?_
      (try simp only [Act.put, List.setIfInBounds_toArray, List.set_cons_zero, List.set_cons_succ])
      refine take_first (v := ?_) 4 rfl (by kernel_rfl) (by kernel_rfl) (by kernel_rfl) (fun _ _ _ h => h) (Or.inl ⟨by rfl, ?_⟩) (by assumption) ?_
      rotate_left
      · (intro w hSw; (try dsimp only at hSw); go_simp; try with_reducible rfl)
      (try simp only [Act.put, List.setIfInBounds_toArray, List.set_cons_zero, List.set_cons_succ])
      refine take_first (v := ?_) 5 rfl (by kernel_rfl) (by kernel_rfl) (by kernel_rfl) (fun _ _ _ h => h) (Or.inl ⟨by rfl, ?_⟩) (by assumption) ?_
      rotate_left
      · (intro w hSw; (try dsimp only at hSw); have hpt := conf_port2 (HAT.out _ hSw) HC.out; go_simp; try with_reducible rfl)
      (try simp only [Act.put, List.setIfInBounds_toArray, List.set_cons_zero, List.set_cons_succ])
      refine step_one 2 rfl (by kernel_rfl) (fun K hK => ?_)
      go_simp
      refine (HTX.out _).mono ?_
      rintro e w3 ⟨rfl, hb⟩
      have hb2 := hHeld.trans (hb.mono hHeld.size)
      clear hb
      go_wp2_with fail
      refine hK.out _ _ hb2 (fun hHeld => ?_)
      clear hK K hb2
      (try simp only [Act.put, List.setIfInBounds_toArray, List.set_cons_zero, List.set_cons_succ])
      refine step_one 3 rfl (by kernel_rfl) (fun K hK => ?_)
      go_simp
      refine (entry_any tPriv tp (by decide) (by have := HTL.out; omega) _).mono ?_
      rintro e w4 ⟨rfl, rfl⟩
      go_wp2_with fail
      refine hK.out _ _ hHeld (fun hHeld => ?_)
      clear hK K
      (try simp only [Act.put, List.setIfInBounds_toArray, List.set_cons_zero, List.set_cons_succ])
      refine step_one 6 rfl (by kernel_rfl) (fun K hK => ?_)
      go_simp
      refine (HIT.out _ (HLV1.out.below hHeld)).mono ?_
      rintro e w5 ⟨rfl, hb⟩
      have hb2 := hHeld.trans (hb.mono hHeld.size)
      clear hb
      go_wp2_with fail
      refine hK.out _ _ hb2 (fun hHeld => ?_)
      clear hK K hb2
      (try simp only [Act.put, List.setIfInBounds_toArray, List.set_cons_zero, List.set_cons_succ])
      refine step_one 7 rfl (by kernel_rfl) (fun K hK => ?_)
      go_simp
      refine (entry_any tPort td (by decide) (by have := HDL.out; omega) _).mono ?_
      rintro e w6 ⟨rfl, rfl⟩
      go_wp2_with fail
      refine hK.out _ _ hHeld (fun hHeld => ?_)
      clear hK K
      (try simp only [Act.put, List.setIfInBounds_toArray, List.set_cons_zero, List.set_cons_succ])

      refine step_one 8 rfl (by kernel_rfl) (fun K hK => ?_)
      go_simp
      have hal := (Below.refl w6.heap.size w6).alloc (Nat.le_refl _) (.cells #[.string ⟨#[91, 73, 110, 116, 101, 114, 102, 97, 99, 101, 93]⟩, .string ⟨(entT tPriv tp).toArray⟩, .string ⟨(entT tPort td).toArray⟩] 9)
      have hlit := World.ownsRow_lit (base := w.heap.size) (e := 9) (size := 1) w6 #[.string ⟨#[91, 73, 110, 116, 101, 114, 102, 97, 99, 101, 93]⟩, .string ⟨(entT tPriv tp).toArray⟩, .string ⟨(entT tPort td).toArray⟩] 3 (Nat.le_trans HB0.out.size hHeld.size) (by unfold maxLen; omega) rfl
      have hb6 := hHeld.trans (hal.mono hHeld.size)
      refine hK.out _ _ hb6 (fun hHeld => ?_)
      clear hK K
      (try simp only [Act.put, List.setIfInBounds_toArray, List.set_cons_zero, List.set_cons_succ])
      refine take_first (v := ?_) 9 rfl (by kernel_rfl) (by kernel_rfl) (by kernel_rfl) (fun _ _ _ h => h) (Or.inl ⟨by rfl, ?_⟩) (by assumption) ?_
      rotate_left
      · (intro w hSw; (try dsimp only at hSw); go_simp; try with_reducible rfl)
      (try simp only [Act.put, List.setIfInBounds_toArray, List.set_cons_zero, List.set_cons_succ])
      refine wpAnyH_done (by kernel_rfl) ?_ _
      clear hHeld hal
      have HFN := Lib.hid (And.intro hlit hb6)
      clear hlit hb6
      go_wp2_with fail
      go_meet
      exact ⟨_, _, rfl, rfl, HFN.out.1, HFN.out.2⟩
    obtain ⟨t1, t2, ht1, ht2, ho, hb⟩ := hcut
    have HT1 := Lib.hid (And.intro ht1 ht2)
    have HO := Lib.hid ho
    have HB := Lib.hid (HB0.out.trans (hb.mono HB0.out.size))
    have fo := conf_peers2 (HAT.out _ hb) HC.out
    have HLN := Lib.hid HR.out.len
    clear ht1 ht2 ho hb HTX HIT HPC
    obtain ⟨l0, hl0⟩ : ∃ z, [tIface, t1, t2] = z := ⟨_, rfl⟩
    have HL0 := Lib.hid hl0
    have HO0 := Lib.hid (show wc.ownsRow w.heap.size 9 1 u5 l0.length (l0.map strV) from by rw [← hl0]; exact HO.out)
    have HLL0 := Lib.hid (show l0.length = 3 from by rw [← hl0]; rfl)
    clear hl0 HO
    go_wp2_with fail
    clear fo
    go_loopw [5, 25] (fun v i wr => ∃ j : Nat, j ≤ n ∧ i = .int .i64 (j : Int) ∧ wr.ownsRow w.heap.size 9 1 v (l0 ++ (x.peers.take j).flatMap peerT).length ((l0 ++ (x.peers.take j).flatMap peerT).map strV) ∧ Below w.heap.size w wr) (fun _ i _ => n - (intOf i).toNat)
    case atStart => exact ⟨0, Nat.zero_le _, rfl, by simpa using HO0.out, HB.out⟩
    case round =>
      clear HO0 HB
      obtain ⟨j, hj, rfl, ho, hb⟩ := hrel
      have HB := Lib.hid hb
      obtain ⟨ls, hls⟩ : ∃ z, l0 ++ (x.peers.take j).flatMap peerT = z := ⟨_, rfl⟩
      rw [hls] at ho
      have HO := Lib.hid ho
      have HLS := Lib.hid hls
      clear ho hb hls
      by_cases hjn : j < n
      · have d1 : decide ((j : Int) < (n : Int)) = true := by simp; omega
        obtain ⟨b, off, rfl⟩ := HR.out.addr (by omega)
        obtain ⟨p, hp⟩ : ∃ p, x.peers[j]? = some p := ⟨x.peers[j]'(by rw [HLN.out]; exact hjn), List.getElem?_eq_getElem _⟩
        obtain ⟨hpk, A', c', hcc, hcm, hpf, hbl, hat⟩ := HR.out.at j p hp
        have hpm := List.mem_of_getElem? hp
        have HP := Lib.hid (And.intro hp (And.intro hpk (And.intro (HVV.out.2.1 p hpm) (HVV.out.2.2 p hpm))))
        have HPF := Lib.hid hpf
        have HA2 := Lib.hid (show At wr b (off + j * 85) (p.cells (.slice A' p.al.length c')) from fun q v hv => (World.cell?_of_block (HB.out.block b hbl)).trans (hat q v hv))
        obtain ⟨oc, hoc⟩ : ∃ z, (p.cells (.slice A' p.al.length c')).toArray = z := ⟨_, rfl⟩
        have HOC := Lib.hid hoc
        obtain ⟨zs, hzs⟩ : ∃ z, (#[.int .u8 0, .int .u8 0, .int .u8 0, .int .u8 0, .int .u8 0, .int .u8 0, .int .u8 0, .int .u8 0, .int .u8 0, .int .u8 0, .int .u8 0, .int .u8 0, .int .u8 0, .int .u8 0, .int .u8 0, .int .u8 0, .int .u8 0, .int .u8 0, .int .u8 0, .int .u8 0, .int .u8 0, .int .u8 0, .int .u8 0, .int .u8 0, .int .u8 0, .int .u8 0, .int .u8 0, .int .u8 0, .int .u8 0, .int .u8 0, .int .u8 0, .int .u8 0, .int .u8 0, .int .u8 0, .int .u8 0, .int .u8 0, .int .u8 0, .int .u8 0, .int .u8 0, .int .u8 0, .int .u8 0, .int .u8 0, .int .u8 0, .int .u8 0, .int .u8 0, .int .u8 0, .int .u8 0, .int .u8 0, .int .u8 0, .int .u8 0, .int .u8 0, .int .u8 0, .int .u8 0, .int .u8 0, .int .u8 0, .int .u8 0, .int .u8 0, .int .u8 0, .int .u8 0, .int .u8 0, .int .u8 0, .int .u8 0, .int .u8 0, .int .u8 0, .bool false, .bool false, .int .u8 0, .int .u8 0, .int .u8 0, .int .u8 0, .int .u8 0, .int .u8 0, .int .u8 0, .int .u8 0, .int .u8 0, .int .u8 0, .int .u8 0, .int .u8 0, .int .u8 0, .int .u8 0, .int .u8 0, .int .u8 0, .int .i64 0, .int .i64 0, .slice none 0 0] : Array Value).toList = z := ⟨_, rfl⟩
        have HZB := Lib.hid (show Blk (wr.alloc (.cells #[.int .u8 0, .int .u8 0, .int .u8 0, .int .u8 0, .int .u8 0, .int .u8 0, .int .u8 0, .int .u8 0, .int .u8 0, .int .u8 0, .int .u8 0, .int .u8 0, .int .u8 0, .int .u8 0, .int .u8 0, .int .u8 0, .int .u8 0, .int .u8 0, .int .u8 0, .int .u8 0, .int .u8 0, .int .u8 0, .int .u8 0, .int .u8 0, .int .u8 0, .int .u8 0, .int .u8 0, .int .u8 0, .int .u8 0, .int .u8 0, .int .u8 0, .int .u8 0, .int .u8 0, .int .u8 0, .int .u8 0, .int .u8 0, .int .u8 0, .int .u8 0, .int .u8 0, .int .u8 0, .int .u8 0, .int .u8 0, .int .u8 0, .int .u8 0, .int .u8 0, .int .u8 0, .int .u8 0, .int .u8 0, .int .u8 0, .int .u8 0, .int .u8 0, .int .u8 0, .int .u8 0, .int .u8 0, .int .u8 0, .int .u8 0, .int .u8 0, .int .u8 0, .int .u8 0, .int .u8 0, .int .u8 0, .int .u8 0, .int .u8 0, .int .u8 0, .bool false, .bool false, .int .u8 0, .int .u8 0, .int .u8 0, .int .u8 0, .int .u8 0, .int .u8 0, .int .u8 0, .int .u8 0, .int .u8 0, .int .u8 0, .int .u8 0, .int .u8 0, .int .u8 0, .int .u8 0, .int .u8 0, .int .u8 0, .int .i64 0, .int .i64 0, .slice none 0 0] 57)) wr.heap.size 57 zs from by rw [← hzs]; exact Blk.new wr 57 _)
        have HZL := Lib.hid (show zs.length = 85 from by rw [← hzs]; rfl)
        have HJ := Lib.hid (show j < n ∧ n ≤ 8 from ⟨hjn, by have := HVV.out.1; have := HLN.out; omega⟩)
        clear hp hpk hpf hbl hat hoc hcc hcm hzs hpm
        go_upto_region 8 with (first | ((with_reducible refine at_op (.load 57 (.tmp 27)) rfl ?_); refine wpList_load_obj rfl 57 (.tmp 27) rfl b _ rfl _ HA2.out _ Tryz.underlying57 rfl (peer_cellsOf p HP.out.2.1 _) ?_; rw [HOC.out]) | ((with_reducible refine at_op (.store 57 (.tmp 7) (.tmp 28)) rfl ?_); refine wpList_store_obj rfl 57 (.tmp 7) (.tmp 28) rfl wr.heap.size 0 (p.cells (.slice A' p.al.length c')) rfl (by show Value.agg oc = _; rw [HOC.out]) 57 zs HZB.out (peer_cellsOf p HP.out.2.1 _) (by rw [PeerM.cells_length HP.out.2.1, HZL.out]; decide) (peer_one p A' _ c') ?_; intro w7 hb7 hg7))
        rw [setL_all zs _ (by rw [PeerM.cells_length HP.out.2.1, HZL.out])] at hb7
        have hbl7 : Below wr.heap.size wr w7 := ((Below.refl _ _).alloc (Nat.le_refl _) _).grown hg7 (by simp) (by intro k hk; injection hk with hk; omega)
        have HB7 := Lib.hid hb7
        have HW7 := Lib.hid (HB.out.trans (hbl7.mono HB.out.size))
        have HO7 := Lib.hid (own_below HO.out hbl7)
        generalize wr.heap.size = g7 at HB7 ⊢
        clear hb7 hg7 hbl7 HZB HA2 HO HB
        have hpl := peerLines_any p HP.out.2.1 HP.out.2.2.2 HP.out.2.2.1 A' c' w7 (HLV.out.below HW7.out) ⟨(HPF.out.1.below HW7.out).mono HW7.out.size, HPF.out.2⟩
        rw [HOC.out] at hpl
        have HPL := Lib.hid hpl
        clear hpl
        go_upto_region 8 with fail
        go_wp2_with ((with_reducible refine at_op (.load 57 (.tmp 7)) rfl ?_); refine wpList_load_obj rfl 57 (.tmp 7) rfl g7 0 rfl _ HB7.out.all _ Tryz.underlying57 rfl (peer_cellsOf p HP.out.2.1 _) ?_; rw [HOC.out])
        refine HPL.out.mono ?_
        rintro e w8 ⟨v8, rfl, ho8, hb8⟩
        obtain ⟨A8, c8, rfl, _, _, _⟩ := own_sliceK ho8
        have HRW := Lib.hid (RdRow.of_own (os := (peerT p).map fun t => [strV t]) (by simp) (by simp) (show w8.ownsRow _ 9 1 (.slice A8 (peerT p).length c8) (peerT p).length ((peerT p).map fun t => [strV t]).flatten from by rw [flat_one]; exact ho8))
        have HW8 := Lib.hid (HW7.out.trans (hb8.mono HW7.out.size))
        have HO8 := Lib.hid (own_below HO7.out hb8)
        have HLB := Lib.hid (show ls.length ≤ 100 ∧ (peerT p).length ≤ 7 from ⟨by
          have h1 := lines_le (x.peers.take j)
          have h2 := HLS.out
          have h3 := congrArg List.length h2
          rw [List.length_append, HLL0.out] at h3
          have := HJ.out
          rw [List.length_take] at h1
          omega, peerT_le p⟩)
        clear ho8 hb8 HW7 HO7 HPL
        obtain ⟨j2, hj2⟩ : ∃ z, j + 1 = z := ⟨_, rfl⟩
        have e8 : (j : Int) + 1 = (j2 : Int) := by omega
        have w8' : IntKind.i64.wrap (j2 : Int) = (j2 : Int) := by have := HJ.out; rw [IntKind.wrap_i64]; omega
        have HJ2 := Lib.hid (show j2 ≤ n ∧ n - j2 < n - j ∧ j2 = j + 1 from by omega)
        clear hj2 hj hjn d1
        have HAPP := Lib.hid (show l0 ++ (x.peers.take j2).flatMap peerT = ls ++ peerT p from by
          rw [HJ2.out.2.2, take_snoc HP.out.1, List.flatMap_append, ← List.append_assoc, HLS.out]; simp)
        go_wp2_with (at_builtin; refine wpList_append_rows _ rfl (.tmp 29) (.tmp 31) 43 rfl w.heap.size 9 i0 (.string ⟨#[]⟩) 1 16 Tryz.underlying43 HTI.out.1 HTI.out.2.1 HTI.out.2.2.1 HTI.out.2.2.2 (by rfl) (by decide) _ ls.length _ rfl HO8.out _ _ (peerT p).length c8 ((peerT p).map fun t => [strV t]) rfl HRW.out (strs_one _) (by have := HLB.out; unfold maxLen; omega) (by have := HLB.out; omega) HW8.out.size ?_; intro v9 w9 ho9 hg9 hv9)
        have HW9 := Lib.hid (HW8.out.grown hg9 HW8.out.size (fun k e => (own_lt HO8.out e).1))
        have HO9 := Lib.hid (show w9.ownsRow w.heap.size 9 1 v9 (ls ++ peerT p).length ((ls ++ peerT p).map strV) from by
          rw [List.length_append, List.map_append, ← flat_one (peerT p)]; exact ho9)
        clear ho9 hg9 hv9 HO8 HW8 HRW
        go_wp2
        go_roundw
        case rel => exact ⟨j2, HJ2.out.1, rfl, by rw [HAPP.out]; exact HO9.out, HW9.out⟩
        case measure => simp [intOf]; exact HJ2.out.2.1
      · obtain rfl : j = n := by omega
        have d1 : decide ((j : Int) < (j : Int)) = false := by simp
        have hls : ls = confT x := by
          rw [← HLS.out, List.take_of_length_le (by rw [HLN.out]; exact Nat.le_refl _), ← HL0.out, HT1.out.1, HT1.out.2, ← HTP.out, ← HTD.out]
          rfl
        have HEND := Lib.hid (show tx = joinT 10 ls ++ [10] from by
          rw [HTF.out, fmtM, joinT_nl ls (by rw [hls]; simp [confT]), hls])
        have hlen : 3 ≤ ls.length ∧ ls.length ≤ 60 := by
          have h1 := lines_le (x.peers.take j)
          have h3 := congrArg List.length HLS.out
          rw [List.length_append, HLL0.out] at h3
          rw [List.length_take] at h1
          have := HVV.out.1
          omega
        have hown := HO.out
        obtain ⟨A8, k, hk, hA⟩ := own_slice hown
        subst hk
        obtain ⟨gl, rfl⟩ := (own_addr hown).2.2 (by omega)
        have hl1 : ∀ t ∈ ls, t.length ≤ 11000 := by
          rw [hls]
          exact confT_each HC.out (by have := validE_zero HV.out; exact this.1) HVV.out.2.1 HVV.out.2.2
        have HJN := Lib.hid (joinN_c gl k ls 10 wr (own_at hown) (own_top hown) (by omega) hl1 (own_addr hown).1)
        have hjl := joinT_le 10 ls hl1
        obtain ⟨jt, hjt⟩ : ∃ z, joinT 10 ls = z := ⟨_, rfl⟩
        rw [hjt] at HJN HEND hjl
        have HADD := Lib.hid (fun W => add_text jt [10] (by omega) (by simp) W)
        have hadd := HADD.out
        rw [show ([10] : List UInt8).toArray = #[10] from rfl, ← HEND.out] at hadd
        have HBB := Lib.hid HB.out
        obtain ⟨nl, hnl⟩ : ∃ z, ls.length = z := ⟨_, rfl⟩
        rw [hnl] at HJN ⊢
        clear hnl hlen hown hA hl1 hjl hjt HADD HO HB hls
        go_wp2_with fail
        refine HJN.out.mono ?_
        rintro e w9 ⟨rfl, hb9⟩
        have HB9 := Lib.hid (HBB.out.trans (hb9.mono HBB.out.size))
        clear hb9 HJN HBB
        obtain ⟨TJ, hTJ⟩ : ∃ S : ByteArray, ⟨jt.toArray⟩ = S := ⟨_, rfl⟩
        obtain ⟨TX, hTX⟩ : ∃ S : ByteArray, ⟨tx.toArray⟩ = S := ⟨_, rfl⟩
        rw [hTJ, hTX] at hadd
        rw [hTJ]
        have HTXX := Lib.hid hTX
        clear hTJ hTX
        go_wp2
        go_ret2
        exact ⟨by rw [HTXX.out]; rfl, HB9.out⟩
  · have HTF := Lib.hid (show tx = [] from by rw [← HTX0.out, if_neg (by rw [HVE.out]; exact hv)])
    have d0 : ((vE : Int) != 0) = true := by simpa using hv
    have d1 : decide ((vE : Int) = 0) = false := by simpa using hv
    go_wp2_with fail
    go_ret2
    exact ⟨by rw [HTF.out]; rfl, (HB0.out.trans (HB1.out.mono HB0.out.size))⟩
end Go.Proofs.YtcbfchkhbngpkaaGreatDoor
namespace Go.Proofs.YtcbfchkhbngpkaaGreatDoor
open Go.RowKit

/-- the text of a peer's section -/
def peerS (p : PeerM) : List UInt8 := (peerT p).flatMap fun l => l ++ [10]
theorem fmtM_peers (x : ConfM) : fmtM x = ((tIface ++ [10]) ++ ((entT tPriv (textL x.priv) ++ [10]) ++ (entT tPort (decT x.port.toNat) ++ [10]))) ++ x.peers.flatMap peerS := by
  simp only [fmtM, confT, List.flatMap_cons, List.flatMap_assoc, List.append_assoc]
  rfl
/-- the section, part by part -/
theorem peerS_parts (p : PeerM) : peerS p = ([10] ++ (tPeer ++ [10]) ++ (entT tPub (textL p.pub) ++ [10])) ++ ((if p.sha = List.replicate 32 0 then [] else entT tSha (textL p.sha) ++ [10]) ++ ((if p.hasE then entT tEnd (endT p.ea p.ep) ++ [10] else []) ++ ((if p.keep = 0 then [] else entT tKeep (decT p.keep.toNat) ++ [10]) ++ (if p.al.length = 0 then [] else entT tAll (psT p.al) ++ [10])))) := by
  unfold peerS peerT
  simp only [List.flatMap_cons, List.flatMap_append, List.nil_append, List.append_assoc]
  congr 1
  congr 1
  congr 1
  congr 1
  congr 1
  congr 1
  · split <;> simp
  · congr 1
    · split <;> simp
    · congr 1
      · split <;> simp
      · split <;> simp
theorem psT_one (q : AddrM × Int) : psT [q] = prefT q.1 q.2 := by simp [psT, Lib.join]
theorem join_snoc (sep : List UInt8) : ∀ (l : List (List UInt8)) (a : List UInt8), l ≠ [] → Lib.join (l ++ [a]) sep = Lib.join l sep ++ (sep ++ a)
  | [], _, h => absurd rfl h
  | [b], a, _ => by simp [Lib.join]
  | b :: c :: r, a, _ => by
    have := join_snoc sep (c :: r) a (by simp)
    unfold Lib.join at this ⊢
    rw [List.cons_append, List.cons_append, List.intercalate_cons_cons, List.intercalate_cons_cons, ← List.cons_append, this]
    simp
theorem psT_snoc (l : List (AddrM × Int)) (q : AddrM × Int) (h : l ≠ []) : psT (l ++ [q]) = psT l ++ ([44, 32] ++ prefT q.1 q.2) := by
  rw [psT, List.map_append, List.map_singleton, join_snoc _ _ _ (by simpa using h)]
  rfl
theorem if_len {c : Prop} [Decidable c] {l : List UInt8} {n : Nat} (h : l.length ≤ n) : (if c then [] else l).length ≤ n := by
  split
  · simp
  · exact h
/-- the prefixes' part, when i of them are written -/
def alT (al : List (AddrM × Int)) (i : Nat) : List UInt8 := if i = 0 then [] else entT tAll (psT (al.take i))
theorem alT_le (al : List (AddrM × Int)) (i : Nat) (hn : al.length ≤ 16) (hb : ∀ q ∈ al, q.2 ≤ 9223372036854775807) : (alT al i).length ≤ 10100 := by
  rw [alT]
  refine if_len ?_
  have := psT_le (al.take i) (by rw [List.length_take]; omega) (fun q hq => hb q (List.mem_of_mem_take hq))
  simp only [entT, tAll, List.length_append, List.length_cons, List.length_nil]
  omega
theorem alT_zero (al : List (AddrM × Int)) : alT al 0 = [] := rfl
theorem alT_first (al : List (AddrM × Int)) (q : AddrM × Int) (h : al[0]? = some q) : alT al 1 = entT tAll (prefT q.1 q.2) := by
  cases al with
  | nil => cases h
  | cons a r =>
    injection h with h
    subst h
    rw [alT, if_neg (by omega), List.take_succ_cons, List.take_zero, psT_one]
theorem lines_len : ∀ ls : List (List UInt8), (∀ t ∈ ls, t.length ≤ 11000) → (ls.flatMap fun l => l ++ [10]).length ≤ 11001 * ls.length
  | [], _ => by simp
  | a :: r, h => by
    have h1 := lines_len r (fun t ht => h t (List.mem_cons_of_mem _ ht))
    have h2 := h a (List.mem_cons_self ..)
    simp only [List.flatMap_cons, List.length_append, List.length_cons, List.length_nil]
    omega
theorem peersS_le : ∀ l : List PeerM, (∀ p ∈ l, p.ok ∧ rightP p = true ∧ p.al.length ≤ 16) → (l.flatMap peerS).length ≤ 77010 * l.length
  | [], _ => by simp
  | p :: r, h => by
    have h1 := peersS_le r (fun t ht => h t (List.mem_cons_of_mem _ ht))
    obtain ⟨a, b, c⟩ := h p (List.mem_cons_self ..)
    have h2 := lines_len (peerT p) (peerT_each a b c)
    have h3 := peerT_le p
    rw [List.flatMap_cons, List.length_append, List.length_cons]
    have h4 : (peerS p).length ≤ 11001 * (peerT p).length := h2
    omega
theorem alT_next (al : List (AddrM × Int)) (i : Nat) (q : AddrM × Int) (h : al[i]? = some q) (hi : 0 < i) : alT al (i + 1) = alT al i ++ ([44, 32] ++ prefT q.1 q.2) := by
  have hl := (List.getElem?_eq_some_iff.1 h).1
  rw [alT, if_neg (by omega), alT, if_neg (by omega), take_snoc h, psT_snoc _ _ (by
    intro e
    have h2 : (al.take i).length = 0 := by rw [e]; rfl
    rw [List.length_take] at h2
    omega)]
  simp [entT]
end Go.Proofs.YtcbfchkhbngpkaaGreatDoor
namespace Go.Proofs.YtcbfchkhbngpkaaGreatDoor

/-- bit j of a list of bytes, the most significant one of each byte first -/
def bitK (K : List UInt8) (j : Nat) : Nat := (K.getD (j / 8) 0).toNat / 2 ^ (7 - j % 8) % 2
theorem bitK_lt (K : List UInt8) (j : Nat) : bitK K j < 2 := Nat.mod_lt _ (by omega)
/-- the number of the bits a .. a + m - 1 -/
def bitsN (K : List UInt8) (a : Nat) : Nat → Nat
  | 0 => 0
  | m + 1 => 2 * bitsN K a m + bitK K (a + m)
theorem bitsN_lt (K : List UInt8) (a : Nat) : ∀ m, bitsN K a m < 2 ^ m
  | 0 => by simp [bitsN]
  | m + 1 => by
    have := bitsN_lt K a m
    have hb := bitK_lt K (a + m)
    rw [bitsN, Nat.pow_succ]
    omega
theorem three_get (K : List UInt8) (g : Nat) (h : g * 3 + 3 ≤ K.length) : (K.drop (g * 3)).take 3 = [K.getD (g * 3) 0, K.getD (g * 3 + 1) 0, K.getD (g * 3 + 2) 0] := by
  rw [getD_lt (by omega), getD_lt (by omega), getD_lt (by omega)]
  refine List.ext_getElem (by simp; omega) fun r h1 h2 => ?_
  have h3 : r < 3 := by simpa using h2
  obtain rfl | rfl | rfl : r = 0 ∨ r = 1 ∨ r = 2 := by omega
  all_goals simp
theorem numB_three (a b c : UInt8) : numB [a, b, c] = a.toNat * 65536 + b.toNat * 256 + c.toNat := by
  simp [numB, numL]; omega
theorem six_bits0 (a b c : Nat) (_ha : a < 256) (_hb : b < 256) (_hc : c < 256) : (a * 65536 + b * 256 + c) / 2 ^ (6 * (3 - 0)) % 64 = (2 * (2 * (2 * (2 * (2 * (2 * 0 + a / 2 ^ (7 - 0) % 2) + a / 2 ^ (7 - 1) % 2) + a / 2 ^ (7 - 2) % 2) + a / 2 ^ (7 - 3) % 2) + a / 2 ^ (7 - 4) % 2) + a / 2 ^ (7 - 5) % 2) := by
  simp only [Nat.reduceSub, Nat.reduceMul, Nat.reducePow]
  omega
theorem six_bits1 (a b c : Nat) (_ha : a < 256) (_hb : b < 256) (_hc : c < 256) : (a * 65536 + b * 256 + c) / 2 ^ (6 * (3 - 1)) % 64 = (2 * (2 * (2 * (2 * (2 * (2 * 0 + a / 2 ^ (7 - 6) % 2) + a / 2 ^ (7 - 7) % 2) + b / 2 ^ (7 - 0) % 2) + b / 2 ^ (7 - 1) % 2) + b / 2 ^ (7 - 2) % 2) + b / 2 ^ (7 - 3) % 2) := by
  simp only [Nat.reduceSub, Nat.reduceMul, Nat.reducePow]
  omega
theorem six_bits2 (a b c : Nat) (_ha : a < 256) (_hb : b < 256) (_hc : c < 256) : (a * 65536 + b * 256 + c) / 2 ^ (6 * (3 - 2)) % 64 = (2 * (2 * (2 * (2 * (2 * (2 * 0 + b / 2 ^ (7 - 4) % 2) + b / 2 ^ (7 - 5) % 2) + b / 2 ^ (7 - 6) % 2) + b / 2 ^ (7 - 7) % 2) + c / 2 ^ (7 - 0) % 2) + c / 2 ^ (7 - 1) % 2) := by
  simp only [Nat.reduceSub, Nat.reduceMul, Nat.reducePow]
  omega
theorem six_bits3 (a b c : Nat) (_ha : a < 256) (_hb : b < 256) (_hc : c < 256) : (a * 65536 + b * 256 + c) / 2 ^ (6 * (3 - 3)) % 64 = (2 * (2 * (2 * (2 * (2 * (2 * 0 + c / 2 ^ (7 - 2) % 2) + c / 2 ^ (7 - 3) % 2) + c / 2 ^ (7 - 4) % 2) + c / 2 ^ (7 - 5) % 2) + c / 2 ^ (7 - 6) % 2) + c / 2 ^ (7 - 7) % 2) := by
  simp only [Nat.reduceSub, Nat.reduceMul, Nat.reducePow]
  omega
/-- the six bits of a place are those of its group's number -/
theorem sext_bits (K : List UInt8) (i : Nat) (h : i / 4 * 3 + 3 ≤ K.length) : sext K i = bitsN K (6 * i) 6 := by
  unfold sext
  rw [three_get K (i / 4) h, numB_three]
  have ha := (K.getD (i / 4 * 3) 0).toNat_lt
  have hb := (K.getD (i / 4 * 3 + 1) 0).toNat_lt
  have hc := (K.getD (i / 4 * 3 + 2) 0).toNat_lt
  generalize hA : (K.getD (i / 4 * 3) 0).toNat = a at *
  generalize hB : (K.getD (i / 4 * 3 + 1) 0).toNat = b at *
  generalize hC : (K.getD (i / 4 * 3 + 2) 0).toNat = c at *
  have bit : ∀ m x y, 6 * i + m = 8 * x + y → y < 8 → bitK K (6 * i + m) = (K.getD x 0).toNat / 2 ^ (7 - y) % 2 := by
    intro m x y h1 h2
    unfold bitK
    rw [h1, show (8 * x + y) / 8 = x from by omega, show (8 * x + y) % 8 = y from by omega]
  simp only [bitsN]
  rcases (by omega : i % 4 = 0 ∨ i % 4 = 1 ∨ i % 4 = 2 ∨ i % 4 = 3) with h | h | h | h
  · rw [h, bit 0 (i / 4 * 3) 0 (by omega) (by omega), bit 1 (i / 4 * 3) 1 (by omega) (by omega), bit 2 (i / 4 * 3) 2 (by omega) (by omega), bit 3 (i / 4 * 3) 3 (by omega) (by omega), bit 4 (i / 4 * 3) 4 (by omega) (by omega), bit 5 (i / 4 * 3) 5 (by omega) (by omega), hA]
    exact six_bits0 a b c ha hb hc
  · rw [h, bit 0 (i / 4 * 3) 6 (by omega) (by omega), bit 1 (i / 4 * 3) 7 (by omega) (by omega), bit 2 (i / 4 * 3 + 1) 0 (by omega) (by omega), bit 3 (i / 4 * 3 + 1) 1 (by omega) (by omega), bit 4 (i / 4 * 3 + 1) 2 (by omega) (by omega), bit 5 (i / 4 * 3 + 1) 3 (by omega) (by omega), hA, hB]
    exact six_bits1 a b c ha hb hc
  · rw [h, bit 0 (i / 4 * 3 + 1) 4 (by omega) (by omega), bit 1 (i / 4 * 3 + 1) 5 (by omega) (by omega), bit 2 (i / 4 * 3 + 1) 6 (by omega) (by omega), bit 3 (i / 4 * 3 + 1) 7 (by omega) (by omega), bit 4 (i / 4 * 3 + 2) 0 (by omega) (by omega), bit 5 (i / 4 * 3 + 2) 1 (by omega) (by omega), hB, hC]
    exact six_bits2 a b c ha hb hc
  · rw [h, bit 0 (i / 4 * 3 + 2) 2 (by omega) (by omega), bit 1 (i / 4 * 3 + 2) 3 (by omega) (by omega), bit 2 (i / 4 * 3 + 2) 4 (by omega) (by omega), bit 3 (i / 4 * 3 + 2) 5 (by omega) (by omega), bit 4 (i / 4 * 3 + 2) 6 (by omega) (by omega), bit 5 (i / 4 * 3 + 2) 7 (by omega) (by omega), hC]
    exact six_bits3 a b c ha hb hc
end Go.Proofs.YtcbfchkhbngpkaaGreatDoor
namespace Go.Proofs.YtcbfchkhbngpkaaGreatDoor
open Go.RowKit

theorem bit_and (x E : Nat) (hx : x < 256) : bits BinOp.and IntKind.u8 ((x : Int) / 2 ^ E) 1 = ((x / 2 ^ E % 2 : Nat) : Int) := by
  have e1 : (x : Int) / 2 ^ E = ((x / 2 ^ E : Nat) : Int) := by rw [Int.natCast_ediv, Int.natCast_pow]; rfl
  have h := Nat.div_le_self x (2 ^ E)
  have := u8_and_nat (x / 2 ^ E) 1 (by omega) (by omega)
  rw [nat_mask1] at this
  rw [e1]
  exact this
theorem bitK_low (k : List UInt8) (j : Nat) (h : j / 8 < k.length) : bitK (k ++ [0]) j = (k.getD (j / 8) 0).toNat / 2 ^ (7 - j % 8) % 2 := by
  unfold bitK
  rw [getD_lt h, getD_lt (by simp; omega), List.getElem_append_left h]
theorem bitK_high (k : List UInt8) (j : Nat) (h : j / 8 = k.length) : bitK (k ++ [0]) j = 0 := by
  unfold bitK
  rw [h, getD_lt (by simp), List.getElem_append_right (Nat.le_refl _)]
  simp
theorem b64Cut (k : Nat) (hk : k < 64) : ByteArray.extract (ByteArray.mk #[65, 66, 67, 68, 69, 70, 71, 72, 73, 74, 75, 76, 77, 78, 79, 80, 81, 82, 83, 84, 85, 86, 87, 88, 89, 90, 97, 98, 99, 100, 101, 102, 103, 104, 105, 106, 107, 108, 109, 110, 111, 112, 113, 114, 115, 116, 117, 118, 119, 120, 121, 122, 48, 49, 50, 51, 52, 53, 54, 55, 56, 57, 43, 47]) k (k + 1) = ⟨#[b64D k]⟩ := by
  have : ∀ d : Fin 64, ByteArray.extract (ByteArray.mk #[65, 66, 67, 68, 69, 70, 71, 72, 73, 74, 75, 76, 77, 78, 79, 80, 81, 82, 83, 84, 85, 86, 87, 88, 89, 90, 97, 98, 99, 100, 101, 102, 103, 104, 105, 106, 107, 108, 109, 110, 111, 112, 113, 114, 115, 116, 117, 118, 119, 120, 121, 122, 48, 49, 50, 51, 52, 53, 54, 55, 56, 57, 43, 47]) d.val (d.val + 1) = ⟨#[b64D d.val]⟩ := by decide +kernel
  exact this ⟨k, hk⟩
set_option maxRecDepth 100000 in
set_option maxHeartbeats 1000000 in
theorem refText_any (k : List UInt8) (hk : k.length = 32) (ck : Array Value) (hck : ck = (k.map u8v).toArray) (w : World) :
    Calls Tryz.prog 27 #[.agg ck] w fun e w' => e = .returned (.string ⟨(textL k).toArray⟩) ∧ Below w.heap.size w w' := by
  have hbk : Blk (w.alloc (.cells ck 24)) w.heap.size 24 (k.map u8v) := by rw [hck]; exact Blk.new w _ _
  have HB := Lib.hid hbk
  have HK := Lib.hid hk
  clear hbk hck hk
  go_enter Tryz.func27, Tryz.ntmps27
  go_wp2_with fail
  have hblk := HB.out
  have hbw : Below w.heap.size w (w.alloc (.cells ck 24)) := (Below.refl _ _).alloc (Nat.le_refl _) _
  generalize w.alloc _ = W at hblk hbw ⊢
  have HBLK := Lib.hid hblk
  have HBW := Lib.hid hbw
  clear hblk hbw HB
  go_loop [3, 4] (fun v i => ∃ i' : Nat, i' ≤ 43 ∧ i = .int .i64 i' ∧ v = .string ⟨(chrs k i').toArray⟩) (fun _ i => 43 - (intOf i).toNat)
  case atStart => exact ⟨0, by omega, rfl, rfl⟩
  case round =>
    obtain ⟨i, hi, rfl, rfl⟩ := hrel
    by_cases hlt : i < 43
    · go_wp2_with fail
      go_loop [5, 6] (fun n j => ∃ m : Nat, m ≤ 6 ∧ j = .int .i64 (6 * (i : Int) + (m : Int)) ∧ n = .int .i64 (bitsN (k ++ [0]) (6 * i) m : Nat)) (fun _ j => 6 * i + 6 - (intOf j).toNat)
      case atStart => exact ⟨0, by omega, by go_num, rfl⟩
      case round =>
        obtain ⟨m, hm, rfl, rfl⟩ := hrel
        by_cases hm6 : m < 6
        · by_cases h256 : 6 * i + m < 256
          · have hbd := bitsN_lt (k ++ [0]) (6 * i) m
            have hp : 2 ^ m ≤ 2 ^ 6 := Nat.pow_le_pow_right (by omega) (by omega)
            obtain ⟨b, hb⟩ : ∃ b, bitsN (k ++ [0]) (6 * i) m = b := ⟨_, rfl⟩
            have hb64 : b < 64 := by omega
            obtain ⟨x, hx⟩ : ∃ x, k.getD ((6 * i + m) / 8) 0 = x := ⟨_, rfl⟩
            have hj8 : (6 * i + m) / 8 < k.length := by have := HK.out; omega
            have hcell : W.cell? ⟨w.heap.size, (6 * i + m) / 8, none⟩ = some (.int .u8 (x.toNat : Int)) := by
              rw [HBLK.out.cell, map_u8v_getElem? k _ hj8, ← hx, getD_lt hj8]
            rw [hb]
            have s1 : 6 * (i : Int) + (m : Int) < 256 := by omega
            have hbit := bit_and x.toNat (7 - (6 * i + m) % 8) x.toNat_lt
            have hnext : bitsN (k ++ [0]) (6 * i) (m + 1) = 2 * b + x.toNat / 2 ^ (7 - (6 * i + m) % 8) % 2 := by
              rw [bitsN, hb, bitK_low k _ hj8, hx]
            obtain ⟨y, hy⟩ : ∃ y, x.toNat / 2 ^ (7 - (6 * i + m) % 8) % 2 = y := ⟨_, rfl⟩
            have hy2 : y < 2 := by rw [← hy]; exact Nat.mod_lt _ (by omega)
            rw [hy] at hbit hnext
            have HNX := Lib.hid hnext
            clear hbd hp hb hx hy hnext
            obtain rfl | rfl : y = 0 ∨ y = 1 := by omega
            · go_wp2_with fail
              go_round
              case rel => exact ⟨m + 1, by omega, by go_num, by rw [HNX.out]; go_num⟩
              case measure => simp [intOf]; omega
            · go_wp2_with fail
              go_round
              case rel => exact ⟨m + 1, by omega, by go_num, by rw [HNX.out]; go_num⟩
              case measure => simp [intOf]; omega
          · have hj8 : (6 * i + m) / 8 = k.length := by have := HK.out; omega
            have hnext : bitsN (k ++ [0]) (6 * i) (m + 1) = 2 * bitsN (k ++ [0]) (6 * i) m + 0 := by rw [bitsN, bitK_high k _ hj8]
            have hbd := bitsN_lt (k ++ [0]) (6 * i) m
            have hp : 2 ^ m ≤ 2 ^ 6 := Nat.pow_le_pow_right (by omega) (by omega)
            obtain ⟨b, hb⟩ : ∃ b, bitsN (k ++ [0]) (6 * i) m = b := ⟨_, rfl⟩
            have hb64 : b < 64 := by omega
            rw [hb] at hnext ⊢
            have HNX := Lib.hid hnext
            have s1 : decide (6 * (i : Int) + (m : Int) < 256) = false := by rw [decide_eq_false_iff_not]; omega
            have s2 : 256 ≤ 6 * (i : Int) + (m : Int) := by omega
            clear hbd hp hb hnext
            go_wp2_with fail
            go_round
            case rel => exact ⟨m + 1, by omega, by go_num, by rw [HNX.out]; go_num⟩
            case measure => simp [intOf]; omega
        · obtain rfl : m = 6 := by omega
          have hs : bitsN (k ++ [0]) (6 * i) 6 = sext (k ++ [0]) i := (sext_bits _ i (by simp [HK.out]; omega)).symm
          have hs64 := sext_lt (k ++ [0]) i
          rw [hs]
          obtain ⟨d, hd⟩ : ∃ d, sext (k ++ [0]) i = d := ⟨_, rfl⟩
          rw [hd] at hs64 ⊢
          have HD := Lib.hid hd
          have e1 : (0 : Int) ≤ (d : Int) := by omega
          have e2 : (d : Int) ≤ (d : Int) + 1 := by omega
          have e3 : (d : Int) + 1 ≤ 64 := by omega
          have e4 : (0 : Int) ≤ (d : Int) + 1 := by omega
          have had : ∀ w' : World, (Op.stringOp .add ⟨(chrs k i).toArray⟩ (ByteArray.extract (ByteArray.mk #[65, 66, 67, 68, 69, 70, 71, 72, 73, 74, 75, 76, 77, 78, 79, 80, 81, 82, 83, 84, 85, 86, 87, 88, 89, 90, 97, 98, 99, 100, 101, 102, 103, 104, 105, 106, 107, 108, 109, 110, 111, 112, 113, 114, 115, 116, 117, 118, 119, 120, 121, 122, 48, 49, 50, 51, 52, 53, 54, 55, 56, 57, 43, 47]) d (d + 1))).run Tryz.prog w' = .ok (.string ⟨(chrs k i ++ [b64D d]).toArray⟩) w' := fun w' => by
            rw [b64Cut d hs64]
            exact run_string_add_lists w' (chrs k i) [b64D d] (by rw [chrs_length]; omega) (by simp)
          clear hs hd
          go_wp2_with fail
          go_round
          case rel => exact ⟨i + 1, by omega, by go_num, by rw [chrs_succ, HD.out]⟩
          case measure => simp [intOf]; omega
    · obtain rfl : i = 43 := by omega
      have had : ∀ w' : World, (Op.stringOp .add ⟨(chrs k 43).toArray⟩ ⟨#[61]⟩).run Tryz.prog w' = .ok (.string ⟨(chrs k 43 ++ [61]).toArray⟩) w' := fun w' =>
        run_string_add_lists w' (chrs k 43) [61] (by rw [chrs_length]; omega) (by simp)
      go_wp2
      go_ret
      exact ⟨rfl, HBW.out⟩
end Go.Proofs.YtcbfchkhbngpkaaGreatDoor
