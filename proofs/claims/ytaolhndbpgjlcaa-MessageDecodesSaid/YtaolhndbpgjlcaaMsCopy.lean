/-
  A message whose fields are copied in one by one. No statement is proved here.
-/
import Derived.Test.YtaolhndbpgjlcaaMsJoin
import Derived.Test.YtaolhndbpgjlcaaMsZero
import Derived.Test.YtaolhndbpgjlcaaMsKind
import Derived.Test.YtaolhndbpgjlcaaEnt
namespace Go.Proofs.Ytaolhndbpgjlcaa
open Go.RowKit

/-- the first o bytes of B, zeros behind them -/
def msD (B : List UInt8) (N o : Nat) : List UInt8 := B.take o ++ List.replicate (N - o) 0
theorem msD_length (B : List UInt8) (N o : Nat) (hB : B.length = N) (ho : o ≤ N) : (msD B N o).length = N := by
  rw [msD, List.length_append, List.length_take, List.length_replicate]; omega
theorem msD_zero (B : List UInt8) (N : Nat) : msD B N 0 = List.replicate N 0 := by rw [msD, List.take_zero, List.nil_append, Nat.sub_zero]
theorem msD_all (B : List UInt8) (N : Nat) (hB : B.length = N) : msD B N N = B := by rw [msD, Nat.sub_self, List.replicate_zero, List.append_nil, List.take_of_length_le (by omega)]
theorem msD_step (B : List UInt8) (N o z : Nat) (hB : B.length = N) (h : o + z ≤ N) : putL (msD B N o) o ((B.drop o).take z) = msD B N (o + z) := by
  have hx : ((B.drop o).take z).length = z := by rw [List.length_take, List.length_drop]; omega
  have h1 : (msD B N o).take o = B.take o := by
    rw [msD, List.take_append_of_le_length (by rw [List.length_take]; omega), List.take_of_length_le (by rw [List.length_take]; omega)]
  have h2 : (msD B N o).drop (o + z) = List.replicate (N - (o + z)) 0 := by
    rw [msD, List.drop_append, List.drop_of_length_le (by rw [List.length_take]; omega), List.nil_append, List.length_take, Nat.min_eq_left (by omega), List.drop_replicate]
    congr 1
    omega
  rw [putL, hx, h1, h2, msD, List.take_add]
theorem msg_put (nums : List Nat) (D xs : List UInt8) (q o : Nat) (hq : nums.length + o = q) (_h : o + xs.length ≤ D.length) :
    ((MsgM.mk nums D).cells).take q ++ xs.map u8v ++ ((MsgM.mk nums D).cells).drop (q + (xs.map u8v).length) = (MsgM.mk nums (putL D o xs)).cells := by
  subst hq
  have hl : (nums.map u32c).length = nums.length := List.length_map ..
  simp only [MsgM.cells, putL, List.length_map]
  rw [List.take_append, List.drop_append, hl, List.take_of_length_le (by omega), List.drop_of_length_le (by omega), List.nil_append, show nums.length + o - nums.length = o by omega, show nums.length + o + xs.length - nums.length = o + xs.length by omega]
  simp only [List.map_append, List.map_take, List.map_drop, List.append_assoc]
theorem addrOf_some (b off i c : Nat) (h : i < c) : addrOf (some ⟨b, off, none⟩) i c = some ⟨b, off + i, none⟩ := by
  rw [addrOf, if_neg (by omega), Option.map_some, Go.WideShapes.add_plain, Nat.mul_one]
theorem wpList_copy_blk {P : Program} {w : World} {ops : Array Oper} {rest : List Oper} {o : Oper} {a : Act} {Q : Exit → Act → World → Prop} (hgd : o.guard = none) (d s : Operand) (dT sT : TypeId)
    (ho : o.op = .call { callee := .builtin .copy, args := #[d, s], argTypes := #[dT, sT] }) (elem : TypeId) (hu : P.underlying dT = some (.slice elem)) (hsz : (P.info? elem).map (·.size) = some 1)
    (g off dLen dCap : Nat) (ad : Addr) (sLen sCap : Nat) (hd : a.eval d = .slice (some ⟨g, off, none⟩) dLen dCap) (hs : a.eval s = .slice (some ad) sLen sCap)
    (cur : List Value) (t : TypeId) (hg : Blk w g t cur) (cs : List Value) (hn : cs.length = Nat.min sLen dLen)
    (hsrc : ∀ j v, cs[j]? = some v → w.cell? (ad.add j) = some v) (hfit : off + cs.length ≤ cur.length) (h1 : ∀ v ∈ cs, v.oneCell' = true) (new : List Value) (hnew : cur.take off ++ cs ++ cur.drop (off + cs.length) = new)
    (h : ∀ w', Blk w' g t new → w.grownBy w' (some g) → wpList P ops Q rest (a.put o.dst (goInt cs.length)) w') : wpList P ops Q (o :: rest) a w := by
  subst hnew
  exact wpList_copy_bytes w hgd d s dT sT ho elem hu hsz g off dLen dCap ad sLen sCap hd hs cur t hg cs hn hsrc hfit h1 h
theorem step_copy_blk {P : Program} {w : World} {ops : Array Oper} {o : Oper} {a : Act} {K : Act → World → Prop} {Q : Exit → Act → World → Prop} {E : Prop} (hgd : o.guard = none) (d s : Operand) (dT sT : TypeId)
    (ho : o.op = .call { callee := .builtin .copy, args := #[d, s], argTypes := #[dT, sT] }) (elem : TypeId) (hu : P.underlying dT = some (.slice elem)) (hsz : (P.info? elem).map (·.size) = some 1)
    (g off dLen dCap : Nat) (ad : Addr) (sLen sCap : Nat) (hd : a.eval d = .slice (some ⟨g, off, none⟩) dLen dCap) (hs : a.eval s = .slice (some ad) sLen sCap)
    (cur : List Value) (t : TypeId) (hg : Blk w g t cur) (cs : List Value) (hn : cs.length = Nat.min sLen dLen)
    (hsrc : ∀ j v, cs[j]? = some v → w.cell? (ad.add j) = some v) (hfit : off + cs.length ≤ cur.length) (h1 : ∀ v ∈ cs, v.oneCell' = true) (new : List Value) (hnew : cur.take off ++ cs ++ cur.drop (off + cs.length) = new)
    (h : ∀ w', Blk w' g t new → w.grownBy w' (some g) → K (a.put o.dst (goInt cs.length)) w') : if Region.wanted o (yielded ops a.tmps) = true then Oper.wp P o a w K Q else E := by
  subst hnew
  exact step_copy_bytes w hgd d s dT sT ho elem hu hsz g off dLen dCap ad sLen sCap hd hs cur t hg cs hn hsrc hfit h1 h
theorem seg_src {w : World} {b off n : Nat} {l : List UInt8} {B : Nat} (h : Rd w B (some ⟨b, off, none⟩) n l) (s z : Nat) (hz : s + z ≤ n) : ∀ j v, (((l.drop s).take z).map u8v)[j]? = some v → w.cell? ((⟨b, off + s, none⟩ : Addr).add j) = some v :=
  ((h.drop s b off rfl (by omega)).take (m := z) (by omega)).src
end Go.Proofs.Ytaolhndbpgjlcaa
