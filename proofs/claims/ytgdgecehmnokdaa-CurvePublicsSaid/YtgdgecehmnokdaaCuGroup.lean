/-
  The field of 2^255 - 19 numbers, the curve in the form of Edwards with its complete sum, and the ladder of X25519: two scalars can be exchanged. No statement is proved here.
-/
import Derived.Test.YtgdgecehmnokdaaCuPrime
namespace Go.Proofs.Ytgdgecehmnokdaa.Cu
def P25 : Nat := 57896044618658097711785492504343953926634992332820282019728792003956564819949
instance P25nz : NeZero P25 := ⟨by decide⟩
/-- the numbers modulo 2^255 - 19 -/
abbrev Fq := Fin P25
theorem fq_mul_n (a b : Fq) : (a * b).val = a.val * b.val % P25 := Fin.val_mul a b
theorem fq_one_n : (1 : Fq).val = 1 := by decide +kernel
theorem fq_zero_n : (0 : Fq).val = 0 := by decide +kernel
theorem fq_one_ne : (1 : Fq) ≠ 0 := by decide +kernel
theorem fq_two : (2 : Fq) ≠ 0 := by decide +kernel
theorem fmul_zero (a : Fq) : a * 0 = 0 := by grind
theorem fzero_mul (a : Fq) : 0 * a = 0 := by grind
theorem fmul_one (a : Fq) : a * 1 = a := by grind
theorem fadd_zero (a : Fq) : a + 0 = a := by grind
theorem fsub_zero (a : Fq) : a - 0 = a := by grind
theorem fone_mul (a : Fq) : 1 * a = a := by grind
def fpow (a : Fq) : Nat → Fq
  | 0 => 1
  | k+1 => fpow a k * a
theorem fpow_n (a : Fq) : ∀ k : Nat, (fpow a k).val = a.val ^ k % P25
  | 0 => by rw [fpow, fq_one_n, Nat.pow_zero]; decide +kernel
  | k+1 => by
    rw [fpow, fq_mul_n, fpow_n a k, Nat.pow_succ]
    rw [Nat.mul_mod, Nat.mod_mod, ← Nat.mul_mod]
theorem fq_fermat {a : Fq} (h : a ≠ 0) : fpow a (P25 - 1) = 1 := by
  apply Fin.ext
  rw [fpow_n, fq_one_n]
  refine fermat prime_p fun hd => h (Fin.ext ?_)
  rw [fq_zero_n]
  exact Nat.eq_zero_of_dvd_of_lt hd a.isLt
theorem fq_exists (a : Fq) : ∃ b : Fq, b = fpow a (P25 - 2) := ⟨_, rfl⟩
noncomputable def finv (a : Fq) : Fq := Classical.choose (fq_exists a)
theorem finv_eq (a : Fq) : finv a = fpow a (P25 - 2) := Classical.choose_spec (fq_exists a)
theorem fpow_succ (a : Fq) (k : Nat) : fpow a (k+1) = fpow a k * a := rfl
theorem finv_zero : finv 0 = 0 := by
  rw [finv_eq, show P25 - 2 = (P25 - 3) + 1 from by decide +kernel, fpow_succ, fmul_zero]
theorem finv_mul {a : Fq} (h : a ≠ 0) : a * finv a = 1 := by
  have e := fq_fermat h
  rw [show P25 - 1 = (P25 - 2) + 1 from by decide +kernel, fpow_succ, ← finv_eq] at e
  rw [← e]; grind
theorem fzero {a b : Fq} (h : a * b = 0) (ha : a ≠ 0) : b = 0 := by
  have e := finv_mul ha
  have : b = finv a * (a * b) := by grind
  rw [this, h, fmul_zero]
theorem fcancel {a b c : Fq} (h : a * b = a * c) (ha : a ≠ 0) : b = c := by
  have e : a * (b - c) = 0 := by grind
  have := fzero e ha
  grind
theorem fmul_ne {a b : Fq} (ha : a ≠ 0) (hb : b ≠ 0) : a * b ≠ 0 := fun h => hb (fzero h ha)
theorem finv_ne {a : Fq} (h : a ≠ 0) : finv a ≠ 0 := fun e => fq_one_ne (by rw [← finv_mul h, e, fmul_zero])
theorem finv_one : finv 1 = 1 := by
  have := finv_mul fq_one_ne
  grind
theorem finv_canc {a : Fq} (b : Fq) (h : a ≠ 0) : b * finv a * a = b := by
  have := finv_mul h
  grind
theorem fsquare {r q D : Fq} (h : r*r = D*(q*q)) (hq : q ≠ 0) : (r * finv q)*(r * finv q) = D := by
  have e := finv_mul hq
  generalize finv q = i at *
  have : (r*i)*(r*i) = D*((q*i)*(q*i)) := by grind
  rw [this, e]; grind
/-- a point with two coordinates -/
structure EP where
  x : Fq
  y : Fq
def On (D : Fq) (P : EP) : Prop := P.x*P.x + P.y*P.y = 1 + D*P.x*P.x*P.y*P.y
def Nonsq (D : Fq) : Prop := ∀ t : Fq, t*t ≠ D
noncomputable def edAdd (D : Fq) (P Q : EP) : EP := ⟨(P.x*Q.y+P.y*Q.x) * finv (1 + D*P.x*Q.x*P.y*Q.y), (P.y*Q.y - P.x*Q.x) * finv (1 - D*P.x*Q.x*P.y*Q.y)⟩
def edZero : EP := ⟨0, 1⟩
def edNeg (P : EP) : EP := ⟨-P.x, P.y⟩

theorem complete_eps {D x1 y1 x2 y2 : Fq} (h2 : (2 : Fq) ≠ 0) (hD : Nonsq D) (hP : x1*x1 + y1*y1 = 1 + D*x1*x1*y1*y1) (hQ : x2*x2 + y2*y2 = 1 + D*x2*x2*y2*y2) (h : (D*x1*x2*y1*y2)*(D*x1*x2*y1*y2) = 1) : False := by
  obtain ⟨e, he⟩ : ∃ e, D*x1*x2*y1*y2 = e := ⟨_, rfl⟩
  rw [he] at h
  have k1 : (x1 + e*y1)*(x1 + e*y1) = D*((x1*y1*(x2+y2))*(x1*y1*(x2+y2))) := by grind
  have k2 : (x1 - e*y1)*(x1 - e*y1) = D*((x1*y1*(x2-y2))*(x1*y1*(x2-y2))) := by grind
  have n1 : x1*y1 ≠ 0 := by
    intro hz
    clear k1 k2
    have e0 : e = 0 := by grind
    exact fq_one_ne (by rw [← h, e0, fmul_zero])
  have n2 : x2 ≠ 0 := by
    intro hz
    clear k1 k2
    have e0 : e = 0 := by grind
    exact fq_one_ne (by rw [← h, e0, fmul_zero])
  have z1 : x2 + y2 = 0 := by
    refine Classical.byContradiction fun hne => hD ((x1 + e*y1) * finv (x1*y1*(x2+y2))) ?_
    exact fsquare k1 (fun hz => hne (fzero hz n1))
  have z2 : x2 - y2 = 0 := by
    refine Classical.byContradiction fun hne => hD ((x1 - e*y1) * finv (x1*y1*(x2-y2))) ?_
    exact fsquare k2 (fun hz => hne (fzero hz n1))
  have z3 : 2 * x2 = 0 := by grind
  exact n2 (fzero z3 h2)

theorem complete {D : Fq} (h2 : (2 : Fq) ≠ 0) (hD : Nonsq D) {P Q : EP} (hP : On D P) (hQ : On D Q) : 1 + D*P.x*Q.x*P.y*Q.y ≠ 0 ∧ 1 - D*P.x*Q.x*P.y*Q.y ≠ 0 := by
  have h := complete_eps (D := D) (x1 := P.x) (y1 := P.y) (x2 := Q.x) (y2 := Q.y) h2 hD hP hQ
  exact ⟨fun e => h (by grind), fun e => h (by grind)⟩

theorem edAdd_x {D : Fq} (h2 : (2 : Fq) ≠ 0) (hD : Nonsq D) {P Q : EP} (hP : On D P) (hQ : On D Q) : (edAdd D P Q).x * (1 + D*P.x*Q.x*P.y*Q.y) = P.x*Q.y+P.y*Q.x := by
  have h := (complete h2 hD hP hQ).1
  exact finv_canc _ h
theorem edAdd_y {D : Fq} (h2 : (2 : Fq) ≠ 0) (hD : Nonsq D) {P Q : EP} (hP : On D P) (hQ : On D Q) : (edAdd D P Q).y * (1 - D*P.x*Q.x*P.y*Q.y) = P.y*Q.y - P.x*Q.x := by
  have h := (complete h2 hD hP hQ).2
  exact finv_canc _ h

theorem on_key {D x1 y1 x2 y2 : Fq} (hP : x1*x1 + y1*y1 = 1 + D*x1*x1*y1*y1) (hQ : x2*x2 + y2*y2 = 1 + D*x2*x2*y2*y2) : (x1*y2+y1*x2)*(x1*y2+y1*x2)*(1 - D*x1*x2*y1*y2)*(1 - D*x1*x2*y1*y2) + (y1*y2-x1*x2)*(y1*y2-x1*x2)*(1 + D*x1*x2*y1*y2)*(1 + D*x1*x2*y1*y2) = (1 + D*x1*x2*y1*y2)*(1 + D*x1*x2*y1*y2)*(1 - D*x1*x2*y1*y2)*(1 - D*x1*x2*y1*y2) + D*((x1*y2+y1*x2)*(x1*y2+y1*x2)*(y1*y2-x1*x2)*(y1*y2-x1*x2)) := by
  grind
theorem on_add {D : Fq} (h2 : (2 : Fq) ≠ 0) (hD : Nonsq D) {P Q : EP} (hP : On D P) (hQ : On D Q) : On D (edAdd D P Q) := by
  have hx := edAdd_x h2 hD hP hQ
  have hy := edAdd_y h2 hD hP hQ
  obtain ⟨n1, n2⟩ := complete h2 hD hP hQ
  unfold On at *
  generalize (edAdd D P Q).x = X at *
  generalize (edAdd D P Q).y = Y at *
  obtain ⟨x1, y1⟩ := P
  obtain ⟨x2, y2⟩ := Q
  dsimp only at *
  have key := on_key hP hQ
  rw [← hx, ← hy] at key
  generalize 1 + D*x1*x2*y1*y2 = p at *
  generalize 1 - D*x1*x2*y1*y2 = m at *
  clear hx hy hP hQ
  have n3 : p*p*m*m ≠ 0 := fmul_ne (fmul_ne (fmul_ne n1 n1) n2) n2
  refine fcancel (a := p*p*m*m) ?_ n3
  grind

theorem edAdd_comm (D : Fq) (P Q : EP) : edAdd D P Q = edAdd D Q P := by
  unfold edAdd
  have e1 : P.x*Q.y+P.y*Q.x = Q.x*P.y+Q.y*P.x := by grind
  have e2 : 1 + D*P.x*Q.x*P.y*Q.y = 1 + D*Q.x*P.x*Q.y*P.y := by grind
  have e3 : P.y*Q.y - P.x*Q.x = Q.y*P.y - Q.x*P.x := by grind
  have e4 : 1 - D*P.x*Q.x*P.y*Q.y = 1 - D*Q.x*P.x*Q.y*P.y := by grind
  rw [e1, e2, e3, e4]

theorem edAdd_zero (D : Fq) (P : EP) : edAdd D P edZero = P := by
  obtain ⟨x, y⟩ := P
  simp only [edAdd, edZero, EP.mk.injEq]
  rw [fmul_zero (D*x), fzero_mul, fzero_mul, fadd_zero, fsub_zero, finv_one, fmul_one, fmul_one, fmul_one, fmul_one, fmul_zero, fmul_zero, fadd_zero, fsub_zero]
  exact ⟨rfl, rfl⟩

theorem edAdd_neg {D : Fq} (h2 : (2 : Fq) ≠ 0) (hD : Nonsq D) {P : EP} (hP : On D P) : edAdd D P (edNeg P) = edZero := by
  have hN : On D (edNeg P) := by unfold On edNeg at *; dsimp only; grind
  have hy := edAdd_y h2 hD hP hN
  have hx := edAdd_x h2 hD hP hN
  obtain ⟨n1, n2⟩ := complete h2 hD hP hN
  have ex : (edAdd D P (edNeg P)).x = 0 := by
    have : (1 + D*P.x*(edNeg P).x*P.y*(edNeg P).y) * (edAdd D P (edNeg P)).x = 0 := by
      generalize (edAdd D P (edNeg P)).x = X at *
      unfold edNeg at *; dsimp only at *
      grind
    exact fzero this n1
  have ey : (edAdd D P (edNeg P)).y = 1 := by
    refine fcancel (a := 1 - D*P.x*(edNeg P).x*P.y*(edNeg P).y) ?_ n2
    generalize (edAdd D P (edNeg P)).y = Y at *
    unfold edNeg On at *; dsimp only at *
    grind
  generalize edAdd D P (edNeg P) = Z at ex ey
  obtain ⟨a, b⟩ := Z
  dsimp only at ex ey
  rw [ex, ey]; rfl
theorem assoc_kx {D x1 y1 x2 y2 x3 y3 : Fq} (h1 : x1*x1 + y1*y1 = 1 + D*x1*x1*y1*y1) (h2 : x2*x2 + y2*y2 = 1 + D*x2*x2*y2*y2) (h3 : x3*x3 + y3*y3 = 1 + D*x3*x3*y3*y3) :
    ((x1*y2+y1*x2)*(1 - D*x1*x2*y1*y2)*y3 + (y1*y2-x1*x2)*(1 + D*x1*x2*y1*y2)*x3) * ((1+D*x2*x3*y2*y3)*(1-D*x2*x3*y2*y3) + D*x1*y1*(x2*y3+y2*x3)*(y2*y3-x2*x3)) = (x1*(y2*y3-x2*x3)*(1+D*x2*x3*y2*y3) + y1*(x2*y3+y2*x3)*(1-D*x2*x3*y2*y3)) * ((1+D*x1*x2*y1*y2)*(1-D*x1*x2*y1*y2) + D*(x1*y2+y1*x2)*(y1*y2-x1*x2)*x3*y3) := by
  grind
theorem assoc_ky {D x1 y1 x2 y2 x3 y3 : Fq} (h1 : x1*x1 + y1*y1 = 1 + D*x1*x1*y1*y1) (h2 : x2*x2 + y2*y2 = 1 + D*x2*x2*y2*y2) (h3 : x3*x3 + y3*y3 = 1 + D*x3*x3*y3*y3) :
    ((y1*y2-x1*x2)*(1 + D*x1*x2*y1*y2)*y3 - (x1*y2+y1*x2)*(1 - D*x1*x2*y1*y2)*x3) * ((1+D*x2*x3*y2*y3)*(1-D*x2*x3*y2*y3) - D*x1*y1*(x2*y3+y2*x3)*(y2*y3-x2*x3)) = (y1*(y2*y3-x2*x3)*(1+D*x2*x3*y2*y3) - x1*(x2*y3+y2*x3)*(1-D*x2*x3*y2*y3)) * ((1+D*x1*x2*y1*y2)*(1-D*x1*x2*y1*y2) - D*(x1*y2+y1*x2)*(y1*y2-x1*x2)*x3*y3) := by
  grind
/-- the coordinates of a sum of three points, without the inner divisions -/
theorem three_x {D X Y p m Rx Ry Sx Sy T : Fq} (hx : Rx*p = X) (hy : Ry*m = Y) (hT : T*(1 + D*Rx*Sx*Ry*Sy) = Rx*Sy + Ry*Sx) : T*(p*m + D*X*Y*Sx*Sy) = X*m*Sy + Y*p*Sx := by
  have e : T*(p*m + D*X*Y*Sx*Sy) = p*m*(T*(1 + D*Rx*Sx*Ry*Sy)) := by rw [← hx, ← hy]; grind
  rw [e, hT, ← hx, ← hy]; grind
theorem three_y {D X Y p m Rx Ry Sx Sy T : Fq} (hx : Rx*p = X) (hy : Ry*m = Y) (hT : T*(1 - D*Rx*Sx*Ry*Sy) = Ry*Sy - Rx*Sx) : T*(p*m - D*X*Y*Sx*Sy) = Y*p*Sy - X*m*Sx := by
  have e : T*(p*m - D*X*Y*Sx*Sy) = p*m*(T*(1 - D*Rx*Sx*Ry*Sy)) := by rw [← hx, ← hy]; grind
  rw [e, hT, ← hx, ← hy]; grind
theorem three_n {D X Y p m Rx Ry Sx Sy : Fq} (hx : Rx*p = X) (hy : Ry*m = Y) (hp : p ≠ 0) (hm : m ≠ 0) (h1 : 1 + D*Rx*Sx*Ry*Sy ≠ 0) (h2 : 1 - D*Rx*Sx*Ry*Sy ≠ 0) : p*m + D*X*Y*Sx*Sy ≠ 0 ∧ p*m - D*X*Y*Sx*Sy ≠ 0 := by
  have n : p*m ≠ 0 := fmul_ne hp hm
  constructor
  · intro h
    have e : p*m*(1 + D*Rx*Sx*Ry*Sy) = 0 := by rw [← h, ← hx, ← hy]; grind
    exact h1 (fzero e n)
  · intro h
    have e : p*m*(1 - D*Rx*Sx*Ry*Sy) = 0 := by rw [← h, ← hx, ← hy]; grind
    exact h2 (fzero e n)
theorem cross {T V N1 D1 N2 D2 : Fq} (h1 : T*D1 = N1) (h2 : V*D2 = N2) (k : N1*D2 = N2*D1) (n1 : D1 ≠ 0) (n2 : D2 ≠ 0) : T = V := by
  have n : D1*D2 ≠ 0 := fmul_ne n1 n2
  refine fcancel (a := D1*D2) ?_ n
  grind
theorem turn_x {D V x y a b : Fq} (h : V*(1 + D*x*a*y*b) = x*b + y*a) : V*(1 + D*a*x*b*y) = a*y + b*x := by
  have e : 1 + D*a*x*b*y = 1 + D*x*a*y*b := by clear h; grind
  rw [e, h]; grind
theorem turn_y {D V x y a b : Fq} (h : V*(1 - D*x*a*y*b) = y*b - x*a) : V*(1 - D*a*x*b*y) = b*y - a*x := by
  have e : 1 - D*a*x*b*y = 1 - D*x*a*y*b := by clear h; grind
  rw [e, h]; grind
theorem turn_n {D x y a b : Fq} (h1 : 1 + D*x*a*y*b ≠ 0) (h2 : 1 - D*x*a*y*b ≠ 0) : 1 + D*a*x*b*y ≠ 0 ∧ 1 - D*a*x*b*y ≠ 0 := by
  have e : 1 - D*a*x*b*y = 1 - D*x*a*y*b := by clear h1 h2; grind
  have e' : 1 + D*a*x*b*y = 1 + D*x*a*y*b := by clear h1 h2; grind
  rw [e, e']; exact ⟨h1, h2⟩
theorem edAdd_assoc {D : Fq} (h2 : (2 : Fq) ≠ 0) (hD : Nonsq D) {P Q S : EP} (hP : On D P) (hQ : On D Q) (hS : On D S) : edAdd D (edAdd D P Q) S = edAdd D P (edAdd D Q S) := by
  have hR := on_add h2 hD hP hQ
  have hU := on_add h2 hD hQ hS
  have rx := edAdd_x h2 hD hP hQ
  have ry := edAdd_y h2 hD hP hQ
  have ux := edAdd_x h2 hD hQ hS
  have uy := edAdd_y h2 hD hQ hS
  have tx := edAdd_x h2 hD hR hS
  have ty := edAdd_y h2 hD hR hS
  have vx := edAdd_x h2 hD hP hU
  have vy := edAdd_y h2 hD hP hU
  obtain ⟨p1, p2⟩ := complete h2 hD hP hQ
  obtain ⟨q1, q2⟩ := complete h2 hD hQ hS
  obtain ⟨r1, r2⟩ := complete h2 hD hR hS
  obtain ⟨s1, s2⟩ := complete h2 hD hP hU
  have kx := assoc_kx hP hQ hS
  have ky := assoc_ky hP hQ hS
  clear hP hQ hS hR hU
  generalize edAdd D (edAdd D P Q) S = T at *
  generalize edAdd D P (edAdd D Q S) = V at *
  generalize edAdd D P Q = R at *
  generalize edAdd D Q S = U at *
  obtain ⟨x1, y1⟩ := P
  obtain ⟨x2, y2⟩ := Q
  obtain ⟨x3, y3⟩ := S
  obtain ⟨Rx, Ry⟩ := R
  obtain ⟨Ux, Uy⟩ := U
  obtain ⟨Tx, Ty⟩ := T
  obtain ⟨Vx, Vy⟩ := V
  dsimp only at *
  have vx' := turn_x vx
  have vy' := turn_y vy
  obtain ⟨s1', s2'⟩ := turn_n s1 s2
  have n1 := three_n rx ry p1 p2 r1 r2
  have n2 := three_n ux uy q1 q2 s1' s2'
  have a1 := three_x rx ry tx
  have a2 := three_x ux uy vx'
  have b1 := three_y rx ry ty
  have b2 := three_y ux uy vy'
  clear tx ty vx vy vx' vy' rx ry ux uy p1 p2 q1 q2 r1 r2 s1 s2 s1' s2'
  have ex : Tx = Vx := by
    refine cross a1 a2 ?_ n1.1 n2.1
    have e1 : (1 + D*x2*x3*y2*y3)*(1 - D*x2*x3*y2*y3) + D*(x2*y3+y2*x3)*(y2*y3-x2*x3)*x1*y1 = (1+D*x2*x3*y2*y3)*(1-D*x2*x3*y2*y3) + D*x1*y1*(x2*y3+y2*x3)*(y2*y3-x2*x3) := by clear kx ky a1 a2 b1 b2 n1 n2; grind
    have e2 : (x2*y3+y2*x3)*(1 - D*x2*x3*y2*y3)*y1 + (y2*y3-x2*x3)*(1 + D*x2*x3*y2*y3)*x1 = x1*(y2*y3-x2*x3)*(1+D*x2*x3*y2*y3) + y1*(x2*y3+y2*x3)*(1-D*x2*x3*y2*y3) := by clear kx ky a1 a2 b1 b2 n1 n2; grind
    rw [e1, e2]
    exact kx
  have ey : Ty = Vy := by
    refine cross b1 b2 ?_ n1.2 n2.2
    have e1 : (1 + D*x2*x3*y2*y3)*(1 - D*x2*x3*y2*y3) - D*(x2*y3+y2*x3)*(y2*y3-x2*x3)*x1*y1 = (1+D*x2*x3*y2*y3)*(1-D*x2*x3*y2*y3) - D*x1*y1*(x2*y3+y2*x3)*(y2*y3-x2*x3) := by clear kx ky a1 a2 b1 b2 n1 n2; grind
    have e2 : (y2*y3-x2*x3)*(1 + D*x2*x3*y2*y3)*y1 - (x2*y3+y2*x3)*(1 - D*x2*x3*y2*y3)*x1 = y1*(y2*y3-x2*x3)*(1+D*x2*x3*y2*y3) - x1*(x2*y3+y2*x3)*(1-D*x2*x3*y2*y3) := by clear kx ky a1 a2 b1 b2 n1 n2; grind
    rw [e1, e2]
    exact ky
  rw [ex, ey]

/-- n times a point -/
noncomputable def edMul (D : Fq) (P : EP) : Nat → EP
  | 0 => edZero
  | n + 1 => edAdd D (edMul D P n) P
theorem on_zero (D : Fq) : On D edZero := by unfold On edZero; grind
theorem on_mul {D : Fq} (h2 : (2 : Fq) ≠ 0) (hD : Nonsq D) {P : EP} (hP : On D P) : ∀ n, On D (edMul D P n)
  | 0 => on_zero D
  | n + 1 => on_add h2 hD (on_mul h2 hD hP n) hP
theorem edMul_add {D : Fq} (h2 : (2 : Fq) ≠ 0) (hD : Nonsq D) {P : EP} (hP : On D P) (n : Nat) : ∀ m, edAdd D (edMul D P n) (edMul D P m) = edMul D P (n + m)
  | 0 => edAdd_zero D _
  | m + 1 => by
    show edAdd D (edMul D P n) (edAdd D (edMul D P m) P) = edAdd D (edMul D P (n + m)) P
    rw [← edAdd_assoc h2 hD (on_mul h2 hD hP n) (on_mul h2 hD hP m) hP, edMul_add h2 hD hP n m]
theorem edMul_mul {D : Fq} (h2 : (2 : Fq) ≠ 0) (hD : Nonsq D) {P : EP} (hP : On D P) (n : Nat) : ∀ m, edMul D (edMul D P n) m = edMul D P (n * m)
  | 0 => rfl
  | m + 1 => by
    show edAdd D (edMul D (edMul D P n) m) (edMul D P n) = _
    rw [edMul_mul h2 hD hP n m, edMul_add h2 hD hP, Nat.mul_succ]
/-- X : Z is the number of a point with the second coordinate y -/
def Rep (X Z y : Fq) : Prop := X*(1 - y) = Z*(1 + y) ∧ ¬(X = 0 ∧ Z = 0)
theorem Rep.sum {X Z y : Fq} (h2 : (2 : Fq) ≠ 0) (h : Rep X Z y) : X - Z = y*(X + Z) ∧ X + Z ≠ 0 := by
  obtain ⟨h, hn⟩ := h
  have e : X - Z = y*(X + Z) := by grind
  refine ⟨e, fun hz => hn ?_⟩
  have e1 : 2*X = 0 := by grind
  have e2 : 2*Z = 0 := by grind
  exact ⟨fzero e1 h2, fzero e2 h2⟩
theorem dbl_key {D c x y y2 : Fq} (hc : D*(c+1) = c) (h : x*x + y*y = 1 + D*x*x*y*y) (hy : y2*(1 - D*x*x*y*y) = y*y - x*x) (hn : 1 - D*x*x*y*y ≠ 0) : y*y*(1 - y2) = (1 - y*y)*(1 + c - c*(y*y))*(1 + y2) := by
  refine fcancel (a := 1 - D*x*x*y*y) ?_ hn
  have e1 : (1 - D*x*x*y*y)*(y*y*(1 - y2)) = y*y*((1 - D*x*x*y*y) - y2*(1 - D*x*x*y*y)) := by clear hc h hy hn; grind
  have e2 : (1 - D*x*x*y*y)*((1 - y*y)*(1 + c - c*(y*y))*(1 + y2)) = (1 - y*y)*(1 + c - c*(y*y))*((1 - D*x*x*y*y) + y2*(1 - D*x*x*y*y)) := by clear hc h hy hn; grind
  rw [e1, e2, hy]
  clear hy hn e1 e2
  grind
theorem rep_dbl {D c X Z : Fq} {R : EP} (h2 : (2 : Fq) ≠ 0) (hD : Nonsq D) (hc : D*(c+1) = c) (hc1 : c + 1 ≠ 0) (hR : On D R) (h : Rep X Z R.y) :
    Rep ((X+Z)*(X+Z)*((X-Z)*(X-Z))) (((X+Z)*(X+Z) - (X-Z)*(X-Z))*((X+Z)*(X+Z) + c*((X+Z)*(X+Z) - (X-Z)*(X-Z)))) (edAdd D R R).y := by
  obtain ⟨hs, hA⟩ := h.sum h2
  have hy := edAdd_y h2 hD hR hR
  have hn := (complete h2 hD hR hR).2
  rw [hs]
  generalize X + Z = A at *
  have k := dbl_key hc hR hy hn
  clear hy hn h hs
  generalize (edAdd D R R).y = y2 at *
  unfold On at hR
  obtain ⟨x, y⟩ := R
  dsimp only at *
  refine ⟨?_, ?_⟩
  · have e1 : A*A*(y*A*(y*A))*(1 - y2) = A*A*A*A*(y*y*(1 - y2)) := by clear k hR hc hc1; grind
    have e2 : (A*A - y*A*(y*A))*(A*A + c*(A*A - y*A*(y*A)))*(1 + y2) = A*A*A*A*((1 - y*y)*(1 + c - c*(y*y))*(1 + y2)) := by clear k hR hc hc1; grind
    rw [e1, e2, k]
  · rintro ⟨z1, z2⟩
    have n4 : A*A*A*A ≠ 0 := fmul_ne (fmul_ne (fmul_ne hA hA) hA) hA
    have e1 : A*A*A*A*(y*y) = 0 := by clear k hR hc hc1 z2; grind
    have y0 : y*y = 0 := fzero e1 n4
    have e2 : A*A*A*A*(c + 1) = 0 := by
      have : (A*A - y*A*(y*A))*(A*A + c*(A*A - y*A*(y*A))) = A*A*A*A*((1 - y*y)*(1 + c - c*(y*y))) := by clear k hR hc hc1 z1 z2 y0; grind
      rw [this, y0] at z2
      clear k hR
      grind
    exact hc1 (fzero e2 n4)

theorem dif_key {D x y x3 y3 : Fq} (h : x*x + y*y = 1 + D*x*x*y*y) (h3 : x3*x3 + y3*y3 = 1 + D*x3*x3*y3*y3) :
    (y+y3)*(y+y3)*(((1 - D*x*x3*y*y3) - (y*y3 - x*x3))*((1 + D*x*x3*y*y3) - (y*y3 + x*x3))) = (y3-y)*(y3-y)*(((1 - D*x*x3*y*y3) + (y*y3 - x*x3))*((1 + D*x*x3*y*y3) + (y*y3 + x*x3))) := by
  grind
theorem fsub_self (a : Fq) : a - a = 0 := by grind
theorem fmul_comm (a b : Fq) : a*b = b*a := by grind
theorem one_sub {b : Fq} (h : b*b = 1) : (1 - b)*(1 + b) = 0 := by grind
theorem two_split (y : Fq) : (2 : Fq) = (1 - y) + (1 + y) := by grind
theorem flat_one {D x y x3 y3 b : Fq} (hy : y = 0) (hy3 : y3 = 0) (hR : x*x + y*y = 1 + D*x*x*y*y) (hS : x3*x3 + y3*y3 = 1 + D*x3*x3*y3*y3) (hb : b*(1 + D*x*x3*y*y3) = y*y3 + x*x3) : b*b = 1 := by
  rw [hy, fmul_zero, fmul_zero, fadd_zero, fadd_zero] at hR
  rw [hy3, fmul_zero, fmul_zero, fadd_zero, fadd_zero] at hS
  rw [hy, hy3, fmul_zero, fmul_zero, fadd_zero, fmul_one] at hb
  have e : b = x*x3 := by rw [hb]; clear hb hR hS hy hy3; grind
  have e2 : b*b = (x*x)*(x3*x3) := by rw [e]; clear hb hR hS hy hy3 e; grind
  rw [e2, hR, hS, fmul_one]
/-- what the ladder makes of two points whose difference has the number u -/
theorem rep_dif {D X Z X3 Z3 u : Fq} {R P : EP} (h2 : (2 : Fq) ≠ 0) (hD : Nonsq D) (hR : On D R) (hP : On D P) (hu : u*(1 - P.y) = 1 + P.y) (hu0 : u ≠ 0) (h : Rep X Z R.y) (h3 : Rep X3 Z3 (edAdd D R P).y) :
    Rep (((X3-Z3)*(X+Z) + (X3+Z3)*(X-Z))*((X3-Z3)*(X+Z) + (X3+Z3)*(X-Z))) (u*(((X3-Z3)*(X+Z) - (X3+Z3)*(X-Z))*((X3-Z3)*(X+Z) - (X3+Z3)*(X-Z)))) (edAdd D R (edAdd D R P)).y := by
  obtain ⟨hs, hA⟩ := h.sum h2
  obtain ⟨hs3, hA3⟩ := h3.sum h2
  have hS := on_add h2 hD hR hP
  have hN : On D (edNeg R) := by
    obtain ⟨x, y⟩ := R
    unfold On edNeg at *; dsimp only at *; clear hA hA3 hs hs3 h h3; grind
  have hb : edAdd D (edAdd D R P) (edNeg R) = P := by
    rw [edAdd_comm D R P, edAdd_assoc h2 hD hP hR hN, edAdd_neg h2 hD hR, edAdd_zero]
  have y5 := edAdd_y h2 hD hR hS
  have n5 := (complete h2 hD hR hS)
  have yb := edAdd_y h2 hD hS hN
  rw [hb] at yb
  generalize edAdd D R (edAdd D R P) = T at *
  clear hb
  generalize edAdd D R P = S at *
  rw [hs, hs3]
  generalize X + Z = A at *
  generalize X3 + Z3 = C at *
  have hPy : 1 - P.y ≠ 0 := by
    intro e
    have e3 : 1 + P.y = 0 := by rw [← hu, e, fmul_zero]
    have e2 : (2 : Fq) = 0 := by rw [two_split P.y, e, e3, fadd_zero]
    exact h2 e2
  obtain ⟨x, y⟩ := R
  obtain ⟨a, b⟩ := P
  obtain ⟨x3, y3⟩ := S
  obtain ⟨x5, q⟩ := T
  unfold edNeg at *
  unfold On at hR hS hP
  dsimp only at *
  have k := dif_key hR hS
  have n5a := n5.1
  have n5b := n5.2
  have yb' : b*(1 + D*x*x3*y*y3) = y*y3 + x*x3 := by clear k y5 hA hA3 hR hS hP n5 n5a n5b; grind
  have y5' : q*(1 - D*x*x3*y*y3) = y*y3 - x*x3 := y5
  rw [← yb', ← y5'] at k
  generalize hM : 1 - D*x*x3*y*y3 = M at *
  generalize hL : 1 + D*x*x3*y*y3 = L at *
  have k2 : M*L*((y+y3)*(y+y3)*((1 - q)*(1 - b))) = M*L*((y3-y)*(y3-y)*((1 + q)*(1 + b))) := by clear hs hs3 hR hS hP y5 yb yb' y5' hM hL n5; grind
  have nML : M*L ≠ 0 := fmul_ne n5b n5a
  have k3 := fcancel k2 nML
  refine ⟨?_, ?_⟩
  · refine fcancel (a := 1 - b) ?_ hPy
    have e1 : (1 - b)*((y3*C*A + C*(y*A))*(y3*C*A + C*(y*A))*(1 - q)) = C*C*A*A*((y+y3)*(y+y3)*((1 - q)*(1 - b))) := by clear k k2 k3 hs hs3 hR hS hP y5 yb yb' y5' hM hL n5 hu; grind
    have e2 : (1 - b)*(u*((y3*C*A - C*(y*A))*(y3*C*A - C*(y*A)))*(1 + q)) = C*C*A*A*((y3-y)*(y3-y)*((1 + q)*(u*(1 - b)))) := by clear k k2 k3 hs hs3 hR hS hP y5 yb yb' y5' hM hL n5 hu; grind
    rw [e1, e2, hu, k3]
  · rintro ⟨z1, z2⟩
    have nCA : C*C*A*A ≠ 0 := fmul_ne (fmul_ne (fmul_ne hA3 hA3) hA) hA
    have e1 : C*C*A*A*((y+y3)*(y+y3)) = 0 := by rw [← z1]; clear k k2 k3 hs hs3 hR hS hP y5 yb yb' y5' hM hL n5 hu z1 z2; grind
    have e2 : C*C*A*A*(u*((y3-y)*(y3-y))) = 0 := by rw [← z2]; clear k k2 k3 hs hs3 hR hS hP y5 yb yb' y5' hM hL n5 hu z1 z2; grind
    have f1 := fzero e1 nCA
    have f2 := fzero (fzero e2 nCA) hu0
    clear k k2 k3 e1 e2 z1 z2 nCA
    have g1 : y + y3 = 0 := Classical.byContradiction fun hne => hne (fzero f1 hne)
    have g2 : y3 - y = 0 := Classical.byContradiction fun hne => hne (fzero f2 hne)
    have g3 : 2*y3 = 0 := by clear hu hR hS hP f1 f2; grind
    have y30 : y3 = 0 := fzero g3 h2
    have y0 : y = 0 := by clear hu hR hS hP f1 f2; grind
    have b1 := flat_one y0 y30 hR hS (by rw [hL]; exact yb')
    have b2 : (1 - b)*(1 + b) = 0 := one_sub b1
    have b3 : 1 + b = 0 := fzero b2 hPy
    rw [b3] at hu
    have b4 : (1 - b)*u = 0 := by rw [← hu, fmul_comm]
    exact hu0 (fzero b4 hPy)
/-- the state of the multiplication: two points, each as two numbers -/
structure Lad where
  x2 : Fq
  z2 : Fq
  x3 : Fq
  z3 : Fq
def ladSwap (l : Lad) : Lad := ⟨l.x3, l.z3, l.x2, l.z2⟩
def ladStep (c u : Fq) (l : Lad) : Lad :=
  ⟨(l.x2+l.z2)*(l.x2+l.z2)*((l.x2-l.z2)*(l.x2-l.z2)),
   ((l.x2+l.z2)*(l.x2+l.z2) - (l.x2-l.z2)*(l.x2-l.z2))*((l.x2+l.z2)*(l.x2+l.z2) + c*((l.x2+l.z2)*(l.x2+l.z2) - (l.x2-l.z2)*(l.x2-l.z2))),
   ((l.x3-l.z3)*(l.x2+l.z2) + (l.x3+l.z3)*(l.x2-l.z2))*((l.x3-l.z3)*(l.x2+l.z2) + (l.x3+l.z3)*(l.x2-l.z2)),
   u*(((l.x3-l.z3)*(l.x2+l.z2) - (l.x3+l.z3)*(l.x2-l.z2))*((l.x3-l.z3)*(l.x2+l.z2) - (l.x3+l.z3)*(l.x2-l.z2)))⟩
/-- one bit, without the saving of exchanges -/
def ladBit (c u : Fq) (l : Lad) (b : Bool) : Lad := if b then ladSwap (ladStep c u (ladSwap l)) else ladStep c u l
def ladN (c u : Fq) (bits : List Bool) : Lad := bits.foldl (ladBit c u) ⟨1, 0, u, 1⟩
def bitsN (bits : List Bool) : Nat := bits.foldl (fun m b => 2*m + b.toNat) 0
noncomputable def num (X Z : Fq) : Fq := X * finv Z
noncomputable def ladU (c u : Fq) (bits : List Bool) : Fq := num (ladN c u bits).x2 (ladN c u bits).z2

theorem ladN_snoc (c u : Fq) (bits : List Bool) (b : Bool) : ladN c u (bits ++ [b]) = ladBit c u (ladN c u bits) b := by simp [ladN]
theorem bitsN_snoc (bits : List Bool) (b : Bool) : bitsN (bits ++ [b]) = 2 * bitsN bits + b.toNat := by simp [bitsN]

/-- what the state says: the points m P and (m + 1) P -/
def LadInv (D : Fq) (P : EP) (m : Nat) (l : Lad) : Prop := Rep l.x2 l.z2 (edMul D P m).y ∧ Rep l.x3 l.z3 (edMul D P (m + 1)).y
theorem Rep.swap_sign {X Z X3 Z3 u y : Fq} (h : Rep (((X3-Z3)*(X+Z) + (X3+Z3)*(X-Z))*((X3-Z3)*(X+Z) + (X3+Z3)*(X-Z))) (u*(((X3-Z3)*(X+Z) - (X3+Z3)*(X-Z))*((X3-Z3)*(X+Z) - (X3+Z3)*(X-Z)))) y) :
    Rep (((X-Z)*(X3+Z3) + (X+Z)*(X3-Z3))*((X-Z)*(X3+Z3) + (X+Z)*(X3-Z3))) (u*(((X-Z)*(X3+Z3) - (X+Z)*(X3-Z3))*((X-Z)*(X3+Z3) - (X+Z)*(X3-Z3)))) y := by
  have e1 : ((X-Z)*(X3+Z3) + (X+Z)*(X3-Z3))*((X-Z)*(X3+Z3) + (X+Z)*(X3-Z3)) = ((X3-Z3)*(X+Z) + (X3+Z3)*(X-Z))*((X3-Z3)*(X+Z) + (X3+Z3)*(X-Z)) := by clear h; grind
  have e2 : u*(((X-Z)*(X3+Z3) - (X+Z)*(X3-Z3))*((X-Z)*(X3+Z3) - (X+Z)*(X3-Z3))) = u*(((X3-Z3)*(X+Z) - (X3+Z3)*(X-Z))*((X3-Z3)*(X+Z) - (X3+Z3)*(X-Z))) := by clear h; grind
  rw [e1, e2]
  exact h
theorem ladInv_bit {D c u : Fq} {P : EP} (h2 : (2 : Fq) ≠ 0) (hD : Nonsq D) (hc : D*(c+1) = c) (hc1 : c + 1 ≠ 0) (hP : On D P) (hu : u*(1 - P.y) = 1 + P.y) (hu0 : u ≠ 0) {m : Nat} {l : Lad} (h : LadInv D P m l) (b : Bool) : LadInv D P (2*m + b.toNat) (ladBit c u l b) := by
  have hm := on_mul h2 hD hP m
  have hm1 := on_mul h2 hD hP (m + 1)
  have hd := rep_dif h2 hD hm hP hu hu0 h.1 h.2
  rw [show edAdd D (edMul D P m) P = edMul D P (m + 1) from rfl, edMul_add h2 hD hP] at hd
  cases b with
  | false =>
    have h0 := rep_dbl h2 hD hc hc1 hm h.1
    rw [edMul_add h2 hD hP] at h0
    refine ⟨?_, ?_⟩
    · show Rep _ _ (edMul D P (2*m + 0)).y
      rw [show 2*m + 0 = m + m by omega]
      exact h0
    · show Rep _ _ (edMul D P (2*m + 0 + 1)).y
      rw [show 2*m + 0 + 1 = m + (m + 1) by omega]
      exact hd
  | true =>
    have h1 := rep_dbl h2 hD hc hc1 hm1 h.2
    rw [edMul_add h2 hD hP] at h1
    refine ⟨?_, ?_⟩
    · show Rep _ _ (edMul D P (2*m + 1)).y
      rw [show 2*m + 1 = m + (m + 1) by omega]
      exact hd.swap_sign
    · show Rep _ _ (edMul D P (2*m + 1 + 1)).y
      rw [show 2*m + 1 + 1 = m + 1 + (m + 1) by omega]
      exact h1
theorem ladInv_foldl {D c u : Fq} {P : EP} (h2 : (2 : Fq) ≠ 0) (hD : Nonsq D) (hc : D*(c+1) = c) (hc1 : c + 1 ≠ 0) (hP : On D P) (hu : u*(1 - P.y) = 1 + P.y) (hu0 : u ≠ 0) : ∀ (bits : List Bool) (m : Nat) (l : Lad), LadInv D P m l → LadInv D P (bits.foldl (fun m b => 2*m + b.toNat) m) (bits.foldl (ladBit c u) l)
  | [], _, _, h => h
  | b :: bits, _, _, h => ladInv_foldl h2 hD hc hc1 hP hu hu0 bits _ _ (ladInv_bit h2 hD hc hc1 hP hu hu0 h b)
theorem ladInv_all {D c u : Fq} {P : EP} (h2 : (2 : Fq) ≠ 0) (hD : Nonsq D) (hc : D*(c+1) = c) (hc1 : c + 1 ≠ 0) (hP : On D P) (hu : u*(1 - P.y) = 1 + P.y) (hu0 : u ≠ 0) (bits : List Bool) : LadInv D P (bitsN bits) (ladN c u bits) := by
  refine ladInv_foldl h2 hD hc hc1 hP hu hu0 bits 0 _ ⟨?_, ?_⟩
  · show Rep 1 0 1
    exact ⟨by rw [fsub_self, fmul_zero, fzero_mul], fun h => fq_one_ne h.1⟩
  · show Rep u 1 (edAdd D edZero P).y
    rw [edAdd_comm, edAdd_zero]
    exact ⟨by rw [hu, fone_mul], fun h => fq_one_ne h.2⟩

noncomputable def edU (P : EP) : Fq := num (1 + P.y) (1 - P.y)
theorem num_zero (X : Fq) : num X 0 = 0 := by unfold num; rw [finv_zero, fmul_zero]
theorem zero_num (Z : Fq) : num 0 Z = 0 := by unfold num; rw [fzero_mul]
theorem num_eq {X Z r q : Fq} (hZ : Z ≠ 0) (hq : q ≠ 0) (h : X*q = Z*r) : num X Z = num r q := by
  have e1 := finv_mul hZ
  have e2 := finv_mul hq
  unfold num
  generalize finv Z = a at *
  generalize finv q = b at *
  have e3 : X*a = X*q*(a*b) := by
    have : X*q*(a*b) = X*a*(q*b) := by clear h e1 e2; grind
    rw [this, e2, fmul_one]
  have e4 : r*b = Z*r*(a*b) := by
    have : Z*r*(a*b) = r*b*(Z*a) := by clear h e1 e2 e3; grind
    rw [this, e1, fmul_one]
  rw [e3, e4, h]
theorem rep_num {X Z y : Fq} (h2 : (2 : Fq) ≠ 0) (h : Rep X Z y) : num X Z = num (1 + y) (1 - y) := by
  obtain ⟨h, hn⟩ := h
  by_cases hZ : Z = 0
  · have hX : X ≠ 0 := fun e => hn ⟨e, hZ⟩
    have hy : 1 - y = 0 := by
      refine fzero (a := X) ?_ hX
      rw [h, hZ, fzero_mul]
    rw [hZ, hy, num_zero, num_zero]
  · have hy : 1 - y ≠ 0 := by
      intro e
      have e1 : Z*(1 + y) = 0 := by rw [← h, e, fmul_zero]
      have e2 := fzero e1 hZ
      have e3 : (2 : Fq) = (1 - y) + (1 + y) := by clear h e1 e e2; grind
      rw [e, e2, fadd_zero] at e3
      exact h2 e3
    exact num_eq hZ hy h
theorem ladU_mul {D c u : Fq} {P : EP} (h2 : (2 : Fq) ≠ 0) (hD : Nonsq D) (hc : D*(c+1) = c) (hc1 : c + 1 ≠ 0) (hP : On D P) (hu : u*(1 - P.y) = 1 + P.y) (hu0 : u ≠ 0) (bits : List Bool) : ladU c u bits = edU (edMul D P (bitsN bits)) :=
  rep_num h2 (ladInv_all h2 hD hc hc1 hP hu hu0 bits).1
theorem lad_zero_foldl (c : Fq) : ∀ (bits : List Bool) (l : Lad), l.x2*l.z2 = 0 ∧ l.x3*l.z3 = 0 → (bits.foldl (ladBit c 0) l).x2*(bits.foldl (ladBit c 0) l).z2 = 0
  | [], _, h => h.1
  | b :: bits, l, h => by
    refine lad_zero_foldl c bits (ladBit c 0 l b) ?_
    obtain ⟨x2, z2, x3, z3⟩ := l
    obtain ⟨h1, h3⟩ := h
    dsimp only at h1 h3
    cases b with
    | false =>
      simp only [ladBit, ladStep, Bool.false_eq_true, if_false]
      constructor <;> grind
    | true =>
      simp only [ladBit, ladStep, ladSwap, if_true]
      constructor <;> grind
/-- the point 0 gives 0 -/
theorem ladU_zero (c : Fq) (bits : List Bool) : ladU c 0 bits = 0 := by
  have h := lad_zero_foldl c bits ⟨1, 0, 0, 1⟩ (by dsimp only; constructor <;> grind)
  unfold ladU num ladN
  generalize bits.foldl (ladBit c 0) ⟨1, 0, 0, 1⟩ = l at h ⊢
  generalize l.x2 = X at *
  generalize l.z2 = Z at *
  by_cases hZ : Z = 0
  · rw [hZ, finv_zero, fmul_zero]
  · have e : Z * X = 0 := by rw [← h]; clear h; grind
    rw [fzero e hZ, fzero_mul]
theorem edU_zero_two {D c : Fq} {Q : EP} (hc : D*(c+1) = c) (hQ : On D Q) (h : edU Q = 0) : edMul D Q 2 = edZero := by
  have hy : (1 - Q.y)*(1 + Q.y) = 0 := by
    by_cases e : 1 - Q.y = 0
    · rw [e, fzero_mul]
    · unfold edU num at h
      have h' : finv (1 - Q.y) * (1 + Q.y) = 0 := by rw [← h]; clear h; grind
      rw [fzero h' (finv_ne e), fmul_zero]
  have hyy : Q.y*Q.y = 1 := by clear h hc; grind
  have hx : Q.x*Q.x = 0 := by
    unfold On at hQ
    have hd : (c+1)*(1 - D) = 1 := by clear hQ h; grind
    have hd0 : 1 - D ≠ 0 := fun e => fq_one_ne (by rw [← hd, e, fmul_zero])
    refine fzero (a := 1 - D) ?_ hd0
    clear hd hd0 hc h
    grind
  have hx0 : Q.x = 0 := Classical.byContradiction fun hne => hne (fzero hx hne)
  have e1 : edMul D Q 1 = Q := by
    show edAdd D edZero Q = Q
    rw [edAdd_comm, edAdd_zero]
  show edAdd D (edMul D Q 1) Q = edZero
  rw [e1]
  unfold edAdd edZero
  rw [hx0]
  simp only [EP.mk.injEq]
  simp only [fmul_zero, fzero_mul, fadd_zero, fsub_zero, finv_one, fmul_one, hyy, and_self]
theorem edMul_even {D : Fq} (h2 : (2 : Fq) ≠ 0) (hD : Nonsq D) {Q : EP} (hQ : On D Q) (h : edMul D Q 2 = edZero) (k : Nat) : edMul D Q (2*k) = edZero := by
  rw [← edMul_mul h2 hD hQ, h]
  induction k with
  | zero => rfl
  | succ k ih =>
    show edAdd D (edMul D edZero k) edZero = edZero
    rw [edAdd_zero, ih]
theorem edU_edZero : edU (edZero : EP) = 0 := by
  unfold edU edZero; dsimp only
  rw [fsub_self, num_zero]
theorem edU_point {Q : EP} (h : edU Q ≠ 0) : edU Q*(1 - Q.y) = 1 + Q.y := by
  unfold edU at *
  by_cases e : 1 - Q.y = 0
  · rw [e, num_zero] at h
    exact absurd rfl h
  · exact finv_canc _ e
/-- the two ways to a shared secret -/
theorem lad_comm {D c u : Fq} {P : EP} (h2 : (2 : Fq) ≠ 0) (hD : Nonsq D) (hc : D*(c+1) = c) (hc1 : c + 1 ≠ 0) (hP : On D P) (hu : u*(1 - P.y) = 1 + P.y) (hu0 : u ≠ 0) (a b : List Bool) (i j : Nat) (ha : bitsN a = 2*i) (hb : bitsN b = 2*j) : ladU c (ladU c u b) a = ladU c (ladU c u a) b := by
  have main : ∀ (a b : List Bool) (i : Nat), bitsN a = 2*i → ladU c u b = 0 → edU (edMul D P (bitsN b * bitsN a)) = 0 := by
    intro a b i ha hz
    rw [ladU_mul h2 hD hc hc1 hP hu hu0] at hz
    rw [← edMul_mul h2 hD hP, ha, edMul_even h2 hD (on_mul h2 hD hP _) (edU_zero_two hc (on_mul h2 hD hP _) hz), edU_edZero]
  have way : ∀ a b : List Bool, ladU c u b ≠ 0 → ladU c (ladU c u b) a = edU (edMul D P (bitsN b * bitsN a)) := by
    intro a b hne
    have hB := on_mul h2 hD hP (bitsN b)
    rw [ladU_mul h2 hD hc hc1 hP hu hu0] at hne ⊢
    rw [ladU_mul h2 hD hc hc1 hB (edU_point hne) hne, edMul_mul h2 hD hP]
  have all : ∀ (a b : List Bool) (i : Nat), bitsN a = 2*i → ladU c (ladU c u b) a = edU (edMul D P (bitsN b * bitsN a)) := by
    intro a b i ha
    by_cases hz : ladU c u b = 0
    · rw [hz, ladU_zero, main a b i ha hz]
    · exact way a b hz
  rw [all a b i ha, all b a j hb, Nat.mul_comm]
def fqD0 : Fq := 20800338683988658368647408995589388737092878452977063003340006470870624536394
def fqC : Fq := 121665
def fq9 : Fq := 9
def fqX9 : Fq := 9771384041963202563870679428059935816164187996444183106833894008023910952347
def fqY9 : Fq := 46316835694926478169428394003475163141307993866256225615783033603165251855960
theorem fpow_double (t : Fq) : ∀ k : Nat, fpow (t*t) k = fpow t (k+k)
  | 0 => rfl
  | k+1 => by
    rw [show k + 1 + (k + 1) = k + k + 1 + 1 by omega, fpow_succ, fpow_succ, fpow_succ, fpow_double t k]
    grind
theorem fq_nonsq : Nonsq fqD0 := by
  intro t h
  have h0 : t ≠ 0 := fun e => by
    rw [e, fmul_zero] at h
    exact absurd h (by decide +kernel)
  have e1 := fq_fermat h0
  have e2 := fpow_double t ((P25-1)/2)
  rw [show (P25-1)/2 + (P25-1)/2 = P25 - 1 from by decide +kernel, e1, h] at e2
  have e3 : (fpow fqD0 ((P25-1)/2)).val = 1 := by rw [e2, fq_one_n]
  rw [fpow_n, ← pm_eq P25 256 _ _ (by decide +kernel)] at e3
  exact absurd e3 (by decide +kernel)
theorem fq_c : fqD0 * (fqC + 1) = fqC := by decide +kernel
theorem fq_c1 : fqC + 1 ≠ 0 := by decide +kernel
def fqP9 : EP := ⟨fqX9, fqY9⟩
theorem on_nine : On fqD0 fqP9 := by
  show fqX9*fqX9 + fqY9*fqY9 = 1 + fqD0*fqX9*fqX9*fqY9*fqY9
  decide +kernel
theorem fq_nine : fq9*(1 - fqP9.y) = 1 + fqP9.y := by
  show fq9*(1 - fqY9) = 1 + fqY9
  decide +kernel
theorem fq_nine_ne : fq9 ≠ 0 := by decide +kernel
/-- the two ways to a shared secret, over the field -/
theorem fq_comm (a b : List Bool) (i j : Nat) (ha : bitsN a = 2*i) (hb : bitsN b = 2*j) : ladU fqC (ladU fqC fq9 b) a = ladU fqC (ladU fqC fq9 a) b :=
  lad_comm fq_two fq_nonsq fq_c fq_c1 on_nine fq_nine fq_nine_ne a b i j ha hb
end Go.Proofs.Ytgdgecehmnokdaa.Cu
