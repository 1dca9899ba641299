/- GalRow -/
import Derived.Test.YtgcjfiablcjfgaaCrcRow
/- The field of 256 elements as registers of eight bits: products, powers, logarithms. -/
namespace Go.Proofs.Ytgcjfiablcjfgaa
namespace Gal
open Crc (Lin unit img it)
/-- The double of an element. -/
def dbl (a : BitVec 8) : BitVec 8 := if a.getLsbD 7 then (a <<< 1) ^^^ 0x1d#8 else a <<< 1
theorem lin : Lin dbl := fun x y => by
  unfold dbl
  rw [BitVec.getLsbD_xor, BitVec.shiftLeft_xor_distrib]
  cases x.getLsbD 7 <;> cases y.getLsbD 7 <;> simp
  · ac_rfl
  · ac_rfl
  · rw [show ∀ a b p : BitVec 8, (a ^^^ p) ^^^ (b ^^^ p) = (a ^^^ b) ^^^ (p ^^^ p) by intros; ac_rfl, BitVec.xor_self, BitVec.xor_zero]
/-- The product: for each bit of b so many doublings of a. -/
def mul (a b : BitVec 8) : BitVec 8 := img (fun i => it dbl i a) b 8
theorem img_xor_r {W : Nat} (c : Nat → BitVec W) (r s : BitVec W) : ∀ k, img c (r ^^^ s) k = img c r k ^^^ img c s k
  | 0 => by simp [img]
  | k + 1 => by
    unfold img
    rw [BitVec.getLsbD_xor, img_xor_r c r s k]
    cases r.getLsbD k <;> cases s.getLsbD k <;> simp
    · ac_rfl
    · ac_rfl
    · rw [show ∀ a b p : BitVec W, (a ^^^ p) ^^^ (b ^^^ p) = (a ^^^ b) ^^^ (p ^^^ p) by intros; ac_rfl, BitVec.xor_self, BitVec.xor_zero]
theorem img_xor_c {W : Nat} (c d : Nat → BitVec W) (r : BitVec W) : ∀ k, img (fun i => c i ^^^ d i) r k = img c r k ^^^ img d r k
  | 0 => by simp [img]
  | k + 1 => by
    unfold img
    rw [img_xor_c c d r k]
    cases r.getLsbD k <;> simp
    ac_rfl
theorem mul_xor (a b c : BitVec 8) : mul a (b ^^^ c) = mul a b ^^^ mul a c := img_xor_r _ _ _ _
theorem xor_mul (a b c : BitVec 8) : mul (a ^^^ b) c = mul a c ^^^ mul b c := by
  unfold mul
  rw [← img_xor_c]
  congr 1
  funext i
  exact Crc.it_lin lin i a b
theorem linr (a : BitVec 8) : Lin (mul a) := fun x y => mul_xor a x y
theorem linl (b : BitVec 8) : Lin (fun a => mul a b) := fun x y => xor_mul x y b
theorem comm8 : ∀ i, i < 8 → ∀ j, j < 8 → mul (unit i) (unit j) = mul (unit j) (unit i) := by decide +kernel
theorem mul_comm (a b : BitVec 8) : mul a b = mul b a :=
  (linl b).ext (linr b) (fun i hi => (linr (unit i)).ext (linl (unit i)) (fun j hj => comm8 i hi j hj) b) a
theorem assoc8 : ∀ i, i < 8 → ∀ j, j < 8 → ∀ k, k < 8 → mul (mul (unit i) (unit j)) (unit k) = mul (unit i) (mul (unit j) (unit k)) := by decide +kernel
theorem mul_assoc (a b c : BitVec 8) : mul (mul a b) c = mul a (mul b c) :=
  Lin.ext (f := fun a => mul (mul a b) c) (g := fun a => mul a (mul b c)) ((linl c).comp (linl b)) (linl _) (fun i hi =>
    Lin.ext (f := fun b => mul (mul (unit i) b) c) (g := fun b => mul (unit i) (mul b c)) ((linl c).comp (linr (unit i))) ((linr (unit i)).comp (linl c)) (fun j hj =>
      Lin.ext (f := fun c => mul (mul (unit i) (unit j)) c) (g := fun c => mul (unit i) (mul (unit j) c)) (linr _) ((linr (unit i)).comp (linr (unit j))) (fun k hk => assoc8 i hi j hj k hk) c) b) a
theorem mul_zero (a : BitVec 8) : mul a 0#8 = 0#8 := (linr a).zero
theorem zero_mul (a : BitVec 8) : mul 0#8 a = 0#8 := (linl a).zero
theorem one8 : ∀ i, i < 8 → mul 1#8 (unit i) = unit i := by decide +kernel
theorem one_mul (a : BitVec 8) : mul 1#8 a = a := Lin.ext (f := mul 1#8) (g := fun a => a) (linr _) (fun _ _ => rfl) one8 a
theorem mul_one (a : BitVec 8) : mul a 1#8 = a := by rw [mul_comm, one_mul]
theorem dbl8 : ∀ i, i < 8 → ∀ j, j < 8 → mul (dbl (unit i)) (unit j) = dbl (mul (unit i) (unit j)) := by decide +kernel
theorem dbl_mul (a b : BitVec 8) : mul (dbl a) b = dbl (mul a b) :=
  Lin.ext (f := fun a => mul (dbl a) b) (g := fun a => dbl (mul a b)) ((linl b).comp lin) (lin.comp (linl b)) (fun i hi =>
    Lin.ext (f := fun b => mul (dbl (unit i)) b) (g := fun b => dbl (mul (unit i) b)) (linr _) (lin.comp (linr _)) (fun j hj => dbl8 i hi j hj) b) a
theorem two_mul (a : BitVec 8) : mul a 2#8 = dbl a := by
  have h := dbl_mul 1#8 a
  rw [one_mul, show dbl 1#8 = 2#8 by decide] at h
  rw [mul_comm, h]

/-- The powers of 2. -/
def pw (k : Nat) : BitVec 8 := it dbl k 1#8
theorem pw_succ (k : Nat) : pw (k + 1) = dbl (pw k) := rfl
theorem pw_mul (b : BitVec 8) : ∀ k, mul (pw k) b = it dbl k b
  | 0 => one_mul b
  | k + 1 => by rw [pw_succ, dbl_mul, pw_mul b k]; rfl
theorem pw_add (j k : Nat) : mul (pw j) (pw k) = pw (j + k) := by
  rw [pw_mul]
  exact (Crc.it_add dbl k j 1#8).symm
def pwL : List Nat := [1, 2, 4, 8, 16, 32, 64, 128, 29, 58, 116, 232, 205, 135, 19, 38, 76, 152, 45, 90, 180, 117, 234, 201, 143, 3, 6, 12, 24, 48, 96, 192, 157, 39, 78, 156, 37, 74, 148, 53, 106, 212, 181, 119, 238, 193, 159, 35, 70, 140, 5, 10, 20, 40, 80, 160, 93, 186, 105, 210, 185, 111, 222, 161, 95, 190, 97, 194, 153, 47, 94, 188, 101, 202, 137, 15, 30, 60, 120, 240, 253, 231, 211, 187, 107, 214, 177, 127, 254, 225, 223, 163, 91, 182, 113, 226, 217, 175, 67, 134, 17, 34, 68, 136, 13, 26, 52, 104, 208, 189, 103, 206, 129, 31, 62, 124, 248, 237, 199, 147, 59, 118, 236, 197, 151, 51, 102, 204, 133, 23, 46, 92, 184, 109, 218, 169, 79, 158, 33, 66, 132, 21, 42, 84, 168, 77, 154, 41, 82, 164, 85, 170, 73, 146, 57, 114, 228, 213, 183, 115, 230, 209, 191, 99, 198, 145, 63, 126, 252, 229, 215, 179, 123, 246, 241, 255, 227, 219, 171, 75, 150, 49, 98, 196, 149, 55, 110, 220, 165, 87, 174, 65, 130, 25, 50, 100, 200, 141, 7, 14, 28, 56, 112, 224, 221, 167, 83, 166, 81, 162, 89, 178, 121, 242, 249, 239, 195, 155, 43, 86, 172, 69, 138, 9, 18, 36, 72, 144, 61, 122, 244, 245, 247, 243, 251, 235, 203, 139, 11, 22, 44, 88, 176, 125, 250, 233, 207, 131, 27, 54, 108, 216, 173, 71, 142]
def lgL : List Nat := [0, 0, 1, 25, 2, 50, 26, 198, 3, 223, 51, 238, 27, 104, 199, 75, 4, 100, 224, 14, 52, 141, 239, 129, 28, 193, 105, 248, 200, 8, 76, 113, 5, 138, 101, 47, 225, 36, 15, 33, 53, 147, 142, 218, 240, 18, 130, 69, 29, 181, 194, 125, 106, 39, 249, 185, 201, 154, 9, 120, 77, 228, 114, 166, 6, 191, 139, 98, 102, 221, 48, 253, 226, 152, 37, 179, 16, 145, 34, 136, 54, 208, 148, 206, 143, 150, 219, 189, 241, 210, 19, 92, 131, 56, 70, 64, 30, 66, 182, 163, 195, 72, 126, 110, 107, 58, 40, 84, 250, 133, 186, 61, 202, 94, 155, 159, 10, 21, 121, 43, 78, 212, 229, 172, 115, 243, 167, 87, 7, 112, 192, 247, 140, 128, 99, 13, 103, 74, 222, 237, 49, 197, 254, 24, 227, 165, 153, 119, 38, 184, 180, 124, 17, 68, 146, 217, 35, 32, 137, 46, 55, 63, 209, 91, 149, 188, 207, 205, 144, 135, 151, 178, 220, 252, 190, 97, 242, 86, 211, 171, 20, 42, 93, 158, 132, 60, 57, 83, 71, 109, 65, 162, 31, 45, 67, 216, 183, 123, 164, 118, 196, 23, 73, 236, 127, 12, 111, 246, 108, 161, 59, 82, 41, 157, 85, 170, 251, 96, 134, 177, 187, 204, 62, 90, 203, 89, 95, 176, 156, 169, 160, 81, 11, 245, 22, 235, 122, 117, 44, 215, 79, 174, 213, 233, 230, 231, 173, 232, 116, 214, 244, 234, 168, 80, 88, 175]
theorem pwL_step : ∀ k, k < 254 → dbl (BitVec.ofNat 8 (pwL.getD k 0)) = BitVec.ofNat 8 (pwL.getD (k + 1) 0) := by decide +kernel
theorem pwL_lt : ∀ k, k < 255 → pwL.getD k 0 < 256 ∧ pwL.getD k 0 ≠ 0 := by decide +kernel
theorem pw_eq : ∀ k, k < 255 → pw k = BitVec.ofNat 8 (pwL.getD k 0)
  | 0, _ => by decide +kernel
  | k + 1, h => by rw [pw_succ, pw_eq k (by omega), pwL_step k (by omega)]
theorem pw_nat (k : Nat) (h : k < 255) : (pw k).toNat = pwL.getD k 0 := by
  rw [pw_eq k h, BitVec.toNat_ofNat]
  exact Nat.mod_eq_of_lt (pwL_lt k h).1
theorem pw_255 : pw 255 = 1#8 := by
  rw [pw_succ, pw_eq 254 (by omega)]
  decide +kernel
theorem pw_round (k : Nat) : pw (k + 255) = pw k := by
  unfold pw
  rw [Crc.it_add dbl 255 k, show it dbl 255 1#8 = 1#8 from pw_255]
theorem pw_rounds (r : Nat) : ∀ q, pw (255 * q + r) = pw r
  | 0 => by rw [Nat.mul_zero, Nat.zero_add]
  | q + 1 => by rw [show 255 * (q + 1) + r = 255 * q + r + 255 by omega, pw_round, pw_rounds r q]
theorem pw_mod (k : Nat) : pw (k % 255) = pw k := by
  have h := pw_rounds (k % 255) (k / 255)
  rw [show 255 * (k / 255) + k % 255 = k by omega] at h
  exact h.symm
theorem pw_ne (k : Nat) : pw k ≠ 0#8 := by
  rw [← pw_mod]
  intro h
  have := congrArg BitVec.toNat h
  rw [pw_nat _ (by omega)] at this
  exact (pwL_lt (k % 255) (by omega)).2 this
/-- The logarithm; that of 0 is 0. -/
def lg (a : BitVec 8) : Nat := lgL.getD a.toNat 0
theorem lgL_lt : ∀ a, a < 256 → lgL.getD a 0 < 255 := by decide +kernel
theorem lgL_pw : ∀ a, a < 256 → a ≠ 0 → pwL.getD (lgL.getD a 0) 0 = a := by decide +kernel
theorem pwL_lg : ∀ k, k < 255 → lgL.getD (pwL.getD k 0) 0 = k := by decide +kernel
theorem lg_lt (a : BitVec 8) : lg a < 255 := lgL_lt _ a.isLt
theorem pw_lg {a : BitVec 8} (h : a ≠ 0#8) : pw (lg a) = a := by
  apply BitVec.eq_of_toNat_eq
  rw [pw_nat _ (lg_lt a)]
  exact lgL_pw _ a.isLt (fun e => h (BitVec.eq_of_toNat_eq e))
theorem lg_pw {k : Nat} (h : k < 255) : lg (pw k) = k := by
  unfold lg
  rw [pw_nat k h]
  exact pwL_lg k h
theorem lg_zero : lg 0#8 = 0 := by decide +kernel
theorem mul_eq {a b : BitVec 8} (ha : a ≠ 0#8) (hb : b ≠ 0#8) : mul a b = pw ((lg a + lg b) % 255) := by
  rw [pw_mod, ← pw_add, pw_lg ha, pw_lg hb]
theorem mul_ne {a b : BitVec 8} (ha : a ≠ 0#8) (hb : b ≠ 0#8) : mul a b ≠ 0#8 := by rw [mul_eq ha hb]; exact pw_ne _
/-- The inverse of an element other than 0. -/
def inv (a : BitVec 8) : BitVec 8 := pw ((255 - lg a) % 255)
theorem mul_inv {a : BitVec 8} (h : a ≠ 0#8) : mul a (inv a) = 1#8 := by
  have hl := lg_lt a
  unfold inv
  rw [pw_mod]
  have e : mul (pw (lg a)) (pw (255 - lg a)) = 1#8 := by
    rw [pw_add, show lg a + (255 - lg a) = 255 by omega, pw_255]
  rwa [pw_lg h] at e
theorem inv_ne (a : BitVec 8) : inv a ≠ 0#8 := pw_ne _
theorem div_mul {a b : BitVec 8} (h : b ≠ 0#8) : mul (mul a (inv b)) b = a := by
  rw [mul_assoc, mul_comm (inv b) b, mul_inv h, mul_one]
theorem div_unique {a b c : BitVec 8} (h : b ≠ 0#8) (e : mul c b = a) : c = mul a (inv b) := by
  rw [← e, mul_assoc, mul_inv h, mul_one]
/-- Quotients. -/
def divE (b : BitVec 8) : Int := if b = 0#8 then 2 else 0
def divV (a b : BitVec 8) : BitVec 8 := if b = 0#8 then 0#8 else mul a (inv b)
/-- The power whose exponent is any number. -/
def pwi (k : Int) : BitVec 8 := pw (k % 255).toNat
theorem pwi_add (j k : Int) : mul (pwi j) (pwi k) = pwi (j + k) := by
  unfold pwi
  rw [pw_add, ← pw_mod]
  congr 1
  omega
theorem pwi_nat (k : Nat) : pwi (k : Int) = pw k := by
  unfold pwi
  rw [show ((k : Int) % 255).toNat = k % 255 by omega, pw_mod]
theorem pwi_mod (k : Int) : pwi (k % 255) = pwi k := by
  unfold pwi
  rw [Int.emod_emod_of_dvd k (Int.dvd_refl 255)]
theorem pwi_neg (a : BitVec 8) : pwi (-(lg a : Int)) = inv a := by
  have hl := lg_lt a
  unfold pwi inv
  congr 1
  omega
def powE (a : BitVec 8) (n : Int) : Int := if a = 0#8 ∧ n < 0 then 2 else 0
def powV (a : BitVec 8) (n : Int) : BitVec 8 := if a = 0#8 then (if n = 0 then 1#8 else 0#8) else pwi ((lg a : Int) * n)
theorem mul_mod (l n : Int) : (l * (n.tmod 255)) % 255 = (l * n) % 255 := by
  have h : n = 255 * (n.tdiv 255) + n.tmod 255 := (Int.mul_tdiv_add_tmod n 255).symm
  obtain ⟨q, hq⟩ : ∃ q, n.tdiv 255 = q := ⟨_, rfl⟩
  obtain ⟨r, hr⟩ : ∃ q, n.tmod 255 = q := ⟨_, rfl⟩
  rw [hq, hr] at h
  rw [hr, h, Int.mul_add, ← Int.mul_assoc, Int.mul_comm l 255, Int.mul_assoc, Int.add_comm, Int.add_mul_emod_self_left]
theorem pow_tmod (a : BitVec 8) (n : Int) : pwi ((lg a : Int) * n.tmod 255) = pwi ((lg a : Int) * n) := by
  rw [← pwi_mod, mul_mod, pwi_mod]
theorem powV_add {a : BitVec 8} (h : a ≠ 0#8) (j k : Int) : mul (powV a j) (powV a k) = powV a (j + k) := by
  unfold powV
  rw [if_neg h, if_neg h, if_neg h, pwi_add, Int.mul_add]
theorem powV_round {a : BitVec 8} (h : a ≠ 0#8) (k : Int) : powV a (k + 255) = powV a k := by
  unfold powV
  rw [if_neg h, if_neg h, Int.mul_add, ← pwi_mod, Int.add_mul_emod_self_right, pwi_mod]
/-- The product of so many factors. -/
def pown (a : BitVec 8) : Nat → BitVec 8
  | 0 => 1#8
  | n + 1 => mul (pown a n) a
theorem pown_zero (n : Nat) : pown 0#8 (n + 1) = 0#8 := mul_zero (pown 0#8 n)
theorem pown_eq {a : BitVec 8} (h : a ≠ 0#8) : ∀ n : Nat, pown a n = pwi ((lg a : Int) * n)
  | 0 => by unfold pown pwi; simp; rfl
  | n + 1 => by
    unfold pown
    rw [pown_eq h n, show (((n + 1 : Nat) : Int)) = (n : Int) + 1 by omega, Int.mul_add, Int.mul_one, ← pwi_add, pwi_nat, pw_lg h]
theorem pow_pown (a : BitVec 8) (n : Int) : a ≠ 0#8 ∨ n = 0 → powV a n = pown a (n % 255).toNat := by
  intro hh
  by_cases h : a = 0#8
  · have e : n = 0 := by rcases hh with hh | hh; exact absurd h hh; exact hh
    subst e
    unfold powV
    rw [if_pos h, if_pos rfl]
    rfl
  · rw [pown_eq h]
    unfold powV
    rw [if_neg h, ← pwi_mod]
    have e : (((n % 255).toNat : Nat) : Int) = n % 255 := by omega
    rw [e, ← pwi_mod ((lg a : Int) * (n % 255))]
    congr 1
    rw [Int.mul_emod, Int.mul_emod (lg a : Int) (n % 255), Int.emod_emod_of_dvd n (Int.dvd_refl 255)]
/-- Logarithms. -/
def logOk (a : BitVec 8) : Bool := decide (a ≠ 0#8)
theorem logL_first : ∀ a, a < 256 → ∀ k, k < 255 → pwL.getD k 0 = a → lgL.getD a 0 = k := fun a _ k hk e => by rw [← e]; exact pwL_lg k hk
/-- The reference's double, in numbers. -/
theorem dbl_nat : ∀ x, x < 256 → (dbl (BitVec.ofNat 8 x)).toNat = if 256 ≤ x * 2 then (x * 2) ^^^ 285 else x * 2 := by decide +kernel
/-- The tables: 255 powers, 256 logarithms. -/
def tab (i : Nat) : Nat := if i < 255 then (pw i).toNat else lg (BitVec.ofNat 8 (i - 255))
def tabk (k i : Nat) : Nat := if i < 255 then (if i < k then (pw i).toNat else 0) else (if lg (BitVec.ofNat 8 (i - 255)) < k then lg (BitVec.ofNat 8 (i - 255)) else 0)
theorem tabk_zero (i : Nat) : tabk 0 i = 0 := by unfold tabk; simp
theorem tabk_all (i : Nat) : tabk 255 i = tab i := by
  unfold tabk tab
  by_cases h : i < 255
  · rw [if_pos h, if_pos h, if_pos h]
  · rw [if_neg h, if_neg h, if_pos (lg_lt _)]
theorem tabk_succ (k i : Nat) (hk : k < 255) (hi : i < 511) : tabk (k + 1) i = if i = 255 + (pw k).toNat then k else if i = k then (pw k).toNat else tabk k i := by
  have hp : (pw k).toNat < 256 := (pw k).isLt
  unfold tabk
  by_cases h : i < 255
  · rw [if_pos h, if_pos h, if_neg (show ¬ i = 255 + (pw k).toNat by omega)]
    by_cases e : i = k
    · subst e; rw [if_pos (show i < i + 1 by omega), if_pos rfl]
    · rw [if_neg e]
      by_cases g : i < k
      · rw [if_pos g, if_pos (show i < k + 1 by omega)]
      · rw [if_neg g, if_neg (show ¬ i < k + 1 by omega)]
  · rw [if_neg h, if_neg h, if_neg (show ¬ i = k by omega)]
    obtain ⟨x, hx⟩ : ∃ x, BitVec.ofNat 8 (i - 255) = x := ⟨_, rfl⟩
    have xn : x.toNat = i - 255 := by rw [← hx, BitVec.toNat_ofNat]; omega
    rw [hx]
    by_cases e : i = 255 + (pw k).toNat
    · have ex : x = pw k := BitVec.eq_of_toNat_eq (by omega)
      rw [if_pos e, ex, lg_pw hk, if_pos (show k < k + 1 by omega)]
    · rw [if_neg e]
      by_cases g : lg x < k
      · rw [if_pos g, if_pos (show lg x < k + 1 by omega)]
      · rw [if_neg g]
        by_cases g2 : lg x < k + 1
        · rw [if_pos g2]
          have lk : lg x = k := by omega
          by_cases x0 : x = 0#8
          · rw [x0, lg_zero]
          · exfalso
            apply e
            rw [← lk, pw_lg x0]
            omega
        · rw [if_neg g2]
theorem tab_log (a : BitVec 8) : tab (255 + a.toNat) = lg a := by
  unfold tab
  rw [if_neg (by omega), show 255 + a.toNat - 255 = a.toNat by omega]
  congr 1
  apply BitVec.eq_of_toNat_eq
  rw [BitVec.toNat_ofNat]
  exact Nat.mod_eq_of_lt a.isLt
theorem tab_pow (k : Nat) (h : k < 255) : tab k = (pw k).toNat := by
  unfold tab
  rw [if_pos h]
end Gal
end Go.Proofs.Ytgcjfiablcjfgaa
/- Polynomials over the field of 256 elements: strings of bytes, trimmed; sums, products, quotients, values, derivatives. -/
namespace Go.Proofs.Ytgcjfiablcjfgaa
set_option linter.unusedVariables false
namespace Gal
/-- The coefficient of a string. -/
def co (l : List UInt8) (i : Nat) : BitVec 8 := (l.getD i 0).toBitVec
theorem co_nat (l : List UInt8) (i : Nat) : (co l i).toNat = (l.getD i 0).toNat := rfl
theorem co_out {l : List UInt8} {i : Nat} (h : l.length ≤ i) : co l i = 0#8 := by
  unfold co
  rw [List.getD_eq_getElem?_getD, List.getElem?_eq_none h]
  rfl
theorem co_take (l : List UInt8) (n i : Nat) : co (l.take n) i = if i < n then co l i else 0#8 := by
  unfold co
  rw [List.getD_eq_getElem?_getD, List.getD_eq_getElem?_getD, List.getElem?_take]
  split <;> rfl
theorem ext {l m : List UInt8} (hl : l.length = m.length) (h : ∀ i, i < l.length → co l i = co m i) : l = m := by
  apply List.ext_getElem hl
  intro i h1 h2
  have := h i h1
  unfold co at this
  rw [List.getD_eq_getElem?_getD, List.getD_eq_getElem?_getD, List.getElem?_eq_getElem h1, List.getElem?_eq_getElem h2] at this
  exact UInt8.toBitVec_inj.1 this
/-- The length without the bytes 0 at the end of the first n. -/
def tn (f : Nat → BitVec 8) : Nat → Nat
  | 0 => 0
  | n + 1 => if f n = 0#8 then tn f n else n + 1
theorem tn_le (f : Nat → BitVec 8) : ∀ n, tn f n ≤ n
  | 0 => Nat.le_refl _
  | n + 1 => by
    unfold tn
    have := tn_le f n
    split <;> omega
theorem tn_zero (f : Nat → BitVec 8) : ∀ n i, tn f n ≤ i → i < n → f i = 0#8
  | 0, _, _, h => by omega
  | n + 1, i, h1, h2 => by
    unfold tn at h1
    split at h1
    · rename_i hz
      by_cases e : i = n
      · rw [e]; exact hz
      · exact tn_zero f n i h1 (by omega)
    · omega
theorem tn_top (f : Nat → BitVec 8) : ∀ n m, tn f n = m + 1 → f m ≠ 0#8
  | 0, m, h => by simp [tn] at h
  | n + 1, m, h => by
    unfold tn at h
    split at h
    · exact tn_top f n m h
    · rename_i hz
      obtain rfl : n = m := by omega
      exact hz
theorem tn_unique {f : Nat → BitVec 8} {n t : Nat} (ht : t ≤ n) (hz : ∀ i, t ≤ i → i < n → f i = 0#8) (htop : ∀ m, t = m + 1 → f m ≠ 0#8) : tn f n = t := by
  have h1 := tn_le f n
  apply Nat.le_antisymm
  · apply Nat.le_of_not_lt
    intro h
    obtain ⟨m, hm⟩ : ∃ m, tn f n = m + 1 := ⟨tn f n - 1, by omega⟩
    exact tn_top f n m hm (hz m (by omega) (by omega))
  · apply Nat.le_of_not_lt
    intro h
    obtain ⟨m, hm⟩ : ∃ m, t = m + 1 := ⟨t - 1, by omega⟩
    exact htop m hm (tn_zero f n m (by omega) (by omega))
/-- Two functions that are the same, and 0 from some place on, have the same trimmed length. -/
theorem tn_congr {f g : Nat → BitVec 8} {n m : Nat} (h : ∀ i, f i = g i) (hf : ∀ i, n ≤ i → f i = 0#8) (hg : ∀ i, m ≤ i → g i = 0#8) : tn f n = tn g m := by
  refine tn_unique (f := f) (t := tn g m) ?_ ?_ ?_
  · apply Nat.le_of_not_lt
    intro hh
    obtain ⟨k, hk⟩ : ∃ k, tn g m = k + 1 := ⟨tn g m - 1, by omega⟩
    exact tn_top g m k hk (by rw [← h]; exact hf k (by omega))
  · intro i h1 h2
    rw [h]
    by_cases e : i < m
    · exact tn_zero g m i h1 e
    · exact hg i (by omega)
  · intro k hk
    rw [h]
    exact tn_top g m k hk
/-- The number of coefficients without those at the end that are 0: the degree and one. -/
def nn (l : List UInt8) : Nat := tn (co l) l.length
theorem nn_le (l : List UInt8) : nn l ≤ l.length := tn_le _ _
theorem nn_out {l : List UInt8} {i : Nat} (h : nn l ≤ i) : co l i = 0#8 := by
  by_cases e : i < l.length
  · exact tn_zero _ _ _ h e
  · exact co_out (by omega)
theorem nn_top {l : List UInt8} {m : Nat} (h : nn l = m + 1) : co l m ≠ 0#8 := tn_top _ _ _ h
def trim (l : List UInt8) : List UInt8 := l.take (nn l)
theorem trim_length (l : List UInt8) : (trim l).length = nn l := by
  unfold trim
  rw [List.length_take]
  have := nn_le l
  omega
theorem co_trim (l : List UInt8) (i : Nat) : co (trim l) i = co l i := by
  unfold trim
  rw [co_take]
  split
  · rfl
  · exact (nn_out (by omega)).symm
theorem trim_eq {l m : List UInt8} (h : ∀ i, co l i = co m i) : trim l = trim m := by
  have e : nn l = nn m := tn_congr h (fun i hi => co_out hi) (fun i hi => co_out hi)
  refine ext (by rw [trim_length, trim_length, e]) (fun i _ => by rw [co_trim, co_trim, h])
theorem nn_eq {l m : List UInt8} (h : ∀ i, co l i = co m i) : nn l = nn m := tn_congr h (fun i hi => co_out hi) (fun i hi => co_out hi)
theorem nn_trim (l : List UInt8) : nn (trim l) = nn l := nn_eq (co_trim l)
theorem trim_trim (l : List UInt8) : trim (trim l) = trim l := trim_eq (co_trim l)
/-- So many coefficients. -/
def coefs (f : Nat → BitVec 8) (n : Nat) : List UInt8 := (List.range n).map (fun i => UInt8.ofBitVec (f i))
theorem coefs_length (f : Nat → BitVec 8) (n : Nat) : (coefs f n).length = n := by simp [coefs]
theorem co_coefs (f : Nat → BitVec 8) (n i : Nat) : co (coefs f n) i = if i < n then f i else 0#8 := by
  unfold co coefs
  rw [List.getD_eq_getElem?_getD, List.getElem?_map]
  by_cases h : i < n
  · simp [h]
  · rw [List.getElem?_eq_none (by simp; omega), if_neg h]
    rfl
theorem co_coefs' {f : Nat → BitVec 8} {n : Nat} (h : ∀ i, n ≤ i → f i = 0#8) (i : Nat) : co (coefs f n) i = f i := by
  rw [co_coefs]
  split
  · rfl
  · exact (h i (by omega)).symm
theorem coefs_congr {f g : Nat → BitVec 8} {n : Nat} (h : ∀ i, i < n → f i = g i) : coefs f n = coefs g n :=
  ext (by rw [coefs_length, coefs_length]) (fun i hi => by
    rw [coefs_length] at hi
    rw [co_coefs, co_coefs, if_pos hi, if_pos hi, h i hi])
theorem coefs_succ (f : Nat → BitVec 8) (n : Nat) : coefs f (n + 1) = coefs f n ++ [UInt8.ofBitVec (f n)] := by simp [coefs, List.range_succ]
theorem coefs_co (l : List UInt8) : coefs (co l) l.length = l := ext (coefs_length _ _) (fun i hi => by rw [coefs_length] at hi; rw [co_coefs, if_pos hi])
/-- The trimmed polynomial with these coefficients. -/
def pol (f : Nat → BitVec 8) (n : Nat) : List UInt8 := trim (coefs f n)
theorem pol_eq {f g : Nat → BitVec 8} {n m : Nat} (h : ∀ i, f i = g i) (hf : ∀ i, n ≤ i → f i = 0#8) (hg : ∀ i, m ≤ i → g i = 0#8) : pol f n = pol g m :=
  trim_eq (fun i => by rw [co_coefs' hf, co_coefs' hg, h])
theorem co_pol {f : Nat → BitVec 8} {n : Nat} (h : ∀ i, n ≤ i → f i = 0#8) (i : Nat) : co (pol f n) i = f i := by
  unfold pol
  rw [co_trim, co_coefs' h]
theorem trim_pol (l : List UInt8) : trim l = pol (co l) l.length := by
  unfold pol
  rw [coefs_co]
theorem pol_length_le (f : Nat → BitVec 8) (n : Nat) : (pol f n).length ≤ n := by
  unfold pol
  rw [trim_length]
  have := nn_le (coefs f n)
  rwa [coefs_length] at this

/-- A polynomial moved up. -/
def sh (i : Nat) (g : Nat → BitVec 8) (k : Nat) : BitVec 8 := if i ≤ k then g (k - i) else 0#8
theorem sh_out {i m : Nat} {g : Nat → BitVec 8} (hg : ∀ k, m ≤ k → g k = 0#8) : ∀ k, i + m ≤ k → sh i g k = 0#8 := fun k hk => by
  unfold sh
  rw [if_pos (by omega)]
  exact hg _ (by omega)
/-- The sum of the rows of a product. -/
def conv : Nat → (Nat → BitVec 8) → (Nat → BitVec 8) → Nat → BitVec 8
  | 0, _, _, _ => 0#8
  | n + 1, f, g, k => conv n f g k ^^^ mul (f n) (sh n g k)
theorem conv_congr {f f' g g' : Nat → BitVec 8} (h : ∀ i, g i = g' i) : ∀ n, (∀ i, i < n → f i = f' i) → ∀ k, conv n f g k = conv n f' g' k
  | 0, _, _ => rfl
  | n + 1, hf, k => by
    unfold conv
    rw [conv_congr h n (fun i hi => hf i (by omega)) k, hf n (by omega)]
    congr 2
    unfold sh
    split
    · exact h _
    · rfl
theorem conv_more {f g : Nat → BitVec 8} {n : Nat} (h : ∀ i, n ≤ i → f i = 0#8) (k : Nat) : ∀ m, conv (n + m) f g k = conv n f g k
  | 0 => rfl
  | m + 1 => by
    show conv (n + m) f g k ^^^ mul (f (n + m)) _ = _
    rw [h (n + m) (by omega), zero_mul, BitVec.xor_zero, conv_more h k m]
theorem conv_any {f g : Nat → BitVec 8} {n m : Nat} (hn : ∀ i, n ≤ i → f i = 0#8) (hm : ∀ i, m ≤ i → f i = 0#8) (k : Nat) : conv n f g k = conv m f g k := by
  rcases Nat.le_total n m with h | h
  · obtain ⟨d, rfl⟩ := Nat.exists_eq_add_of_le h
    exact (conv_more hn k d).symm
  · obtain ⟨d, rfl⟩ := Nat.exists_eq_add_of_le h
    exact conv_more hm k d
theorem conv_out {f g : Nat → BitVec 8} {m : Nat} (hg : ∀ k, m ≤ k → g k = 0#8) : ∀ n k, n + m ≤ k + 1 → n ≤ k + 1 → (n = 0 ∨ n + m ≤ k + 1) → conv n f g k = 0#8
  | 0, _, _, _, _ => rfl
  | n + 1, k, h1, h2, _ => by
    unfold conv
    rw [sh_out hg k (by omega), mul_zero, BitVec.xor_zero]
    exact conv_out hg n k (by omega) (by omega) (by omega)
theorem conv_zero {f g : Nat → BitVec 8} {n m : Nat} (hg : ∀ k, m ≤ k → g k = 0#8) : ∀ k, n + m ≤ k → conv n f g k = 0#8 := fun k h => conv_out hg n k (by omega) (by omega) (by omega)
/-- The product. -/
def prd (p q : List UInt8) (k : Nat) : BitVec 8 := conv p.length (co p) (co q) k
theorem prd_out (p q : List UInt8) : ∀ k, p.length + q.length ≤ k → prd p q k = 0#8 := conv_zero (fun _ h => co_out h)
theorem prd_congr {p q p' q' : List UInt8} (hp : ∀ i, co p i = co p' i) (hq : ∀ i, co q i = co q' i) (k : Nat) : prd p q k = prd p' q' k := by
  unfold prd
  rw [conv_congr hq _ (fun i _ => hp i) k]
  exact conv_any (fun i hi => by rw [← hp]; exact co_out hi) (fun i hi => co_out hi) k
def prodE (p q : List UInt8) : Int := if 1024 ≤ ((nn p : Int) - 1) + ((nn q : Int) - 1) then 3 else 0
def prodV (p q : List UInt8) : List UInt8 := if 1024 ≤ ((nn p : Int) - 1) + ((nn q : Int) - 1) then [] else pol (prd p q) (p.length + q.length)
theorem prod_trim (p q : List UInt8) : pol (prd (trim p) (trim q)) ((trim p).length + (trim q).length) = pol (prd p q) (p.length + q.length) :=
  pol_eq (prd_congr (co_trim p) (co_trim q)) (prd_out _ _) (prd_out _ _)
/-- Sums. -/
def sumF (p q : List UInt8) (k : Nat) : BitVec 8 := co p k ^^^ co q k
def sumV (p q : List UInt8) : List UInt8 := pol (sumF p q) (max p.length q.length)
theorem sumF_out (p q : List UInt8) : ∀ k, max p.length q.length ≤ k → sumF p q k = 0#8 := fun k h => by
  unfold sumF
  rw [co_out (by omega), co_out (by omega), BitVec.xor_zero]
theorem co_sumV (p q : List UInt8) (i : Nat) : co (sumV p q) i = co p i ^^^ co q i := co_pol (sumF_out p q) i
/-- Derivatives. -/
def der (f : Nat → BitVec 8) (i : Nat) : BitVec 8 := if i % 2 = 0 then f (i + 1) else 0#8
def derV (p : List UInt8) : List UInt8 := pol (der (co p)) (p.length - 1)
theorem der_out (p : List UInt8) : ∀ k, p.length - 1 ≤ k → der (co p) k = 0#8 := fun k h => by
  unfold der
  split
  · exact co_out (by omega)
  · rfl
theorem co_derV (p : List UInt8) (i : Nat) : co (derV p) i = der (co p) i := co_pol (der_out p) i
/-- Values, by Horner's rule over the last n coefficients, and by powers. -/
def horner (f : Nat → BitVec 8) (x : BitVec 8) : Nat → Nat → BitVec 8
  | _, 0 => 0#8
  | k, n + 1 => mul x (horner f x (k + 1) n) ^^^ f k
def evl (f : Nat → BitVec 8) (x : BitVec 8) : Nat → BitVec 8
  | 0 => 0#8
  | n + 1 => evl f x n ^^^ mul (f n) (pown x n)
def evalV (p : List UInt8) (x : BitVec 8) : BitVec 8 := evl (co p) x p.length
theorem evl_shift (f : Nat → BitVec 8) (x : BitVec 8) (k : Nat) : ∀ n, evl (fun i => f (k + i)) x (n + 1) = mul x (evl (fun i => f (k + 1 + i)) x n) ^^^ f k
  | 0 => by
    unfold evl evl pown
    rw [mul_zero, mul_one]
    rfl
  | n + 1 => by
    show evl (fun i => f (k + i)) x (n + 1) ^^^ mul (f (k + (n + 1))) (pown x (n + 1)) = mul x (evl (fun i => f (k + 1 + i)) x n ^^^ mul (f (k + 1 + n)) (pown x n)) ^^^ f k
    rw [evl_shift f x k n, mul_xor, show k + (n + 1) = k + 1 + n by omega]
    have e : mul (f (k + 1 + n)) (pown x (n + 1)) = mul x (mul (f (k + 1 + n)) (pown x n)) := by
      show mul _ (mul (pown x n) x) = _
      rw [← mul_assoc, mul_comm x]
    rw [e]
    ac_rfl
theorem horner_evl (f : Nat → BitVec 8) (x : BitVec 8) : ∀ n k, horner f x k n = evl (fun i => f (k + i)) x n
  | 0, _ => rfl
  | n + 1, k => by
    unfold horner
    rw [horner_evl f x n (k + 1), evl_shift]
theorem horner_all (f : Nat → BitVec 8) (x : BitVec 8) (n : Nat) : horner f x 0 n = evl f x n := by
  rw [horner_evl]
  congr 1
  funext i
  rw [Nat.zero_add]
theorem evl_more {f : Nat → BitVec 8} {x : BitVec 8} {n : Nat} (h : ∀ i, n ≤ i → f i = 0#8) : ∀ m, evl f x (n + m) = evl f x n
  | 0 => rfl
  | m + 1 => by
    show evl f x (n + m) ^^^ mul (f (n + m)) _ = _
    rw [h (n + m) (by omega), zero_mul, BitVec.xor_zero, evl_more h m]
theorem evl_any {f : Nat → BitVec 8} {x : BitVec 8} {n m : Nat} (hn : ∀ i, n ≤ i → f i = 0#8) (hm : ∀ i, m ≤ i → f i = 0#8) : evl f x n = evl f x m := by
  rcases Nat.le_total n m with h | h
  · obtain ⟨d, rfl⟩ := Nat.exists_eq_add_of_le h
    exact (evl_more hn d).symm
  · obtain ⟨d, rfl⟩ := Nat.exists_eq_add_of_le h
    exact evl_more hm d
theorem evl_congr {f g : Nat → BitVec 8} {x : BitVec 8} (h : ∀ i, f i = g i) : ∀ n, evl f x n = evl g x n
  | 0 => rfl
  | n + 1 => by
    unfold evl
    rw [evl_congr h n, h]
theorem evl_xor (f g : Nat → BitVec 8) (x : BitVec 8) : ∀ n, evl (fun i => f i ^^^ g i) x n = evl f x n ^^^ evl g x n
  | 0 => by simp [evl]
  | n + 1 => by
    unfold evl
    rw [evl_xor f g x n, xor_mul]
    ac_rfl
theorem evl_scale (c : BitVec 8) (f : Nat → BitVec 8) (x : BitVec 8) : ∀ n, evl (fun i => mul c (f i)) x n = mul c (evl f x n)
  | 0 => (mul_zero c).symm
  | n + 1 => by
    unfold evl
    rw [evl_scale c f x n, mul_xor, mul_assoc]
theorem evl_sh (g : Nat → BitVec 8) (x : BitVec 8) (i : Nat) : ∀ n, evl (sh i g) x (i + n) = mul (pown x i) (evl g x n)
  | 0 => by
    rw [show evl g x 0 = 0#8 from rfl, mul_zero, Nat.add_zero]
    have : ∀ m, m ≤ i → evl (sh i g) x m = 0#8 := by
      intro m
      induction m with
      | zero => intro _; rfl
      | succ m ih =>
        intro hm
        unfold evl
        rw [ih (by omega)]
        unfold sh
        rw [if_neg (by omega), zero_mul, BitVec.xor_zero]
    exact this i (Nat.le_refl _)
  | n + 1 => by
    show evl (sh i g) x (i + n) ^^^ mul (sh i g (i + n)) (pown x (i + n)) = mul (pown x i) (evl g x n ^^^ mul (g n) (pown x n))
    rw [evl_sh g x i n, mul_xor]
    have e1 : sh i g (i + n) = g n := by
      unfold sh
      rw [if_pos (by omega), show i + n - i = n by omega]
    have e2 : ∀ n, pown x (i + n) = mul (pown x i) (pown x n) := by
      intro n
      induction n with
      | zero => exact (mul_one _).symm
      | succ n ih => show mul (pown x (i + n)) x = mul _ (mul (pown x n) x); rw [ih, mul_assoc]
    rw [e1, e2, ← mul_assoc, mul_comm (g n), mul_assoc]
theorem evl_conv {f g : Nat → BitVec 8} {x : BitVec 8} {m : Nat} (hg : ∀ k, m ≤ k → g k = 0#8) : ∀ n, evl (conv n f g) x (n + m) = mul (evl f x n) (evl g x m)
  | 0 => by
    rw [show evl f x 0 = 0#8 from rfl, zero_mul]
    have : ∀ k, evl (conv 0 f g) x k = 0#8 := by
      intro k
      induction k with
      | zero => rfl
      | succ k ih => unfold evl; rw [ih]; show 0#8 ^^^ mul 0#8 _ = 0#8; rw [zero_mul, BitVec.xor_zero]
    exact this _
  | n + 1 => by
    have e : evl (conv (n + 1) f g) x (n + 1 + m) = evl (fun k => conv n f g k ^^^ mul (f n) (sh n g k)) x (n + 1 + m) := evl_congr (fun _ => rfl) _
    rw [e, evl_xor, evl_scale]
    have h1 : evl (conv n f g) x (n + 1 + m) = evl (conv n f g) x (n + m) := evl_any (fun k hk => conv_zero hg k (by omega)) (conv_zero hg)
    have h2 : evl (sh n g) x (n + 1 + m) = evl (sh n g) x (n + m) := evl_any (fun k hk => sh_out hg k (by omega)) (sh_out hg)
    rw [h1, h2, evl_conv hg n, evl_sh]
    show _ = mul (evl f x n ^^^ mul (f n) (pown x n)) (evl g x m)
    rw [xor_mul, mul_assoc]
theorem eval_prod (p q : List UInt8) (x : BitVec 8) : evalV (pol (prd p q) (p.length + q.length)) x = mul (evalV p x) (evalV q x) := by
  unfold evalV
  have e : ∀ i, co (pol (prd p q) (p.length + q.length)) i = conv p.length (co p) (co q) i := co_pol (prd_out p q)
  rw [evl_congr e, ← evl_conv (fun k hk => co_out hk)]
  exact evl_any (fun i hi => by rw [← e]; exact co_out hi) (prd_out p q)
theorem eval_sum (p q : List UInt8) (x : BitVec 8) : evalV (sumV p q) x = evalV p x ^^^ evalV q x := by
  unfold evalV
  have e : ∀ i, co (sumV p q) i = (fun i => co p i ^^^ co q i) i := co_sumV p q
  have h1 : evl (co p) x p.length = evl (co p) x (max p.length q.length) := evl_any (fun i hi => co_out hi) (fun i hi => co_out (by omega))
  have h2 : evl (co q) x q.length = evl (co q) x (max p.length q.length) := evl_any (fun i hi => co_out hi) (fun i hi => co_out (by omega))
  rw [h1, h2, ← evl_xor, ← evl_congr e]
  exact evl_any (fun i hi => co_out hi) (fun i hi => by rw [e]; exact sumF_out p q i hi)
/-- The derivative of a product. -/
theorem der_xor (f g : Nat → BitVec 8) (k : Nat) : der (fun i => f i ^^^ g i) k = der f k ^^^ der g k := by
  unfold der
  split <;> simp
theorem der_scale (c : BitVec 8) (f : Nat → BitVec 8) (k : Nat) : der (fun i => mul c (f i)) k = mul c (der f k) := by
  unfold der
  split
  · rfl
  · exact (mul_zero c).symm
theorem der_sh (g : Nat → BitVec 8) (n k : Nat) : der (sh n g) k = (if n % 2 = 1 then sh (n - 1) g k else 0#8) ^^^ sh n (der g) k := by
  unfold der sh
  dsimp only
  by_cases hk : k % 2 = 0
  · rw [if_pos hk]
    by_cases hn : n % 2 = 1
    · rw [if_pos hn]
      by_cases h : n ≤ k + 1
      · rw [if_pos h, if_pos (show n - 1 ≤ k by omega), show k + 1 - n = k - (n - 1) by omega]
        by_cases h2 : n ≤ k
        · rw [if_pos h2, if_neg (by omega), BitVec.xor_zero]
        · rw [if_neg h2, BitVec.xor_zero]
      · rw [if_neg h, if_neg (show ¬ n - 1 ≤ k by omega), if_neg (show ¬ n ≤ k by omega), BitVec.xor_zero]
    · rw [if_neg hn, BitVec.zero_xor]
      by_cases h : n ≤ k
      · rw [if_pos (show n ≤ k + 1 by omega), if_pos h, if_pos (by omega), show k + 1 - n = k - n + 1 by omega]
      · rw [if_neg h, if_neg (show ¬ n ≤ k + 1 by omega)]
  · rw [if_neg hk]
    by_cases hn : n % 2 = 1
    · rw [if_pos hn]
      by_cases h : n ≤ k
      · rw [if_pos (show n - 1 ≤ k by omega), if_pos h, if_pos (by omega), show k - n + 1 = k - (n - 1) by omega, BitVec.xor_self]
      · rw [if_neg h, if_neg (show ¬ n - 1 ≤ k by omega), BitVec.xor_zero]
    · rw [if_neg hn, BitVec.zero_xor]
      by_cases h : n ≤ k
      · rw [if_pos h, if_neg (by omega)]
      · rw [if_neg h]
theorem der_conv (f g : Nat → BitVec 8) (k : Nat) : ∀ n, der (conv n f g) k = conv (n - 1) (der f) g k ^^^ conv n f (der g) k
  | 0 => by unfold der conv; split <;> simp
  | n + 1 => by
    have e : der (conv (n + 1) f g) k = der (fun j => conv n f g j ^^^ mul (f n) (sh n g j)) k := rfl
    rw [e, der_xor, der_scale, der_sh, der_conv f g k n, mul_xor]
    show _ = conv n (der f) g k ^^^ (conv n f (der g) k ^^^ mul (f n) (sh n (der g) k))
    have h : conv n (der f) g k = conv (n - 1) (der f) g k ^^^ mul (f n) (if n % 2 = 1 then sh (n - 1) g k else 0#8) := by
      cases n with
      | zero => simp [conv, mul_zero]
      | succ n =>
        show conv n (der f) g k ^^^ mul (der f n) (sh n g k) = _
        rw [show n + 1 - 1 = n by omega]
        congr 1
        unfold der
        by_cases hn : n % 2 = 0
        · rw [if_pos hn, if_pos (show (n + 1) % 2 = 1 by omega)]
        · rw [if_neg hn, if_neg (show ¬ (n + 1) % 2 = 1 by omega), zero_mul, mul_zero]
    rw [h]
    ac_rfl
theorem der_prod (p q : List UInt8) : derV (pol (prd p q) (p.length + q.length)) = sumV (pol (prd (derV p) q) ((derV p).length + q.length)) (pol (prd p (derV q)) (p.length + (derV q).length)) := by
  refine pol_eq (fun i => ?_) (der_out _) (sumF_out _ _)
  have e : ∀ i, co (pol (prd p q) (p.length + q.length)) i = conv p.length (co p) (co q) i := co_pol (prd_out p q)
  have e2 : der (co (pol (prd p q) (p.length + q.length))) i = der (conv p.length (co p) (co q)) i := by
    unfold der
    split
    · exact e _
    · rfl
  unfold sumF
  rw [co_pol (prd_out _ _), co_pol (prd_out _ _), e2, der_conv]
  unfold prd
  congr 1
  · rw [conv_congr (f' := co (derV p)) (g' := co q) (fun _ => rfl) _ (fun i _ => (co_derV p i).symm) i]
    exact conv_any (fun i hi => by rw [co_derV]; exact der_out p i hi) (fun i hi => co_out hi) i
  · exact conv_congr (fun i => (co_derV q i).symm) _ (fun _ _ => rfl) i
/-- Division: what is left of f after r of m rounds by g, whose highest coefficient stands at top and has the inverse v. -/
def left (f g : Nat → BitVec 8) (m top : Nat) (v : BitVec 8) : Nat → Nat → BitVec 8
  | 0, j => f j
  | r + 1, j => left f g m top v r j ^^^ mul (mul (left f g m top v r (m - 1 - r + top)) v) (sh (m - 1 - r) g j)
/-- The quotient's coefficients. -/
def quo (f g : Nat → BitVec 8) (m top : Nat) (v : BitVec 8) (k : Nat) : BitVec 8 := if k < m then mul (left f g m top v (m - 1 - k) (k + top)) v else 0#8
theorem left_congr {f f' g g' : Nat → BitVec 8} (hf : ∀ i, f i = f' i) (hg : ∀ i, g i = g' i) (m top : Nat) (v : BitVec 8) : ∀ r j, left f g m top v r j = left f' g' m top v r j
  | 0, j => hf j
  | r + 1, j => by
    unfold left
    rw [left_congr hf hg m top v r j, left_congr hf hg m top v r (m - 1 - r + top)]
    congr 2
    unfold sh
    split
    · exact hg _
    · rfl
theorem quo_congr {f f' g g' : Nat → BitVec 8} (hf : ∀ i, f i = f' i) (hg : ∀ i, g i = g' i) (m top : Nat) (v : BitVec 8) (k : Nat) : quo f g m top v k = quo f' g' m top v k := by
  unfold quo
  rw [left_congr hf hg]
theorem left_out {f g : Nat → BitVec 8} {m top : Nat} {v : BitVec 8} (hf : ∀ i, m + top ≤ i → f i = 0#8) (hg : ∀ i, top + 1 ≤ i → g i = 0#8) (hv : mul v (g top) = 1#8) : ∀ r, r ≤ m → ∀ j, m - r + top ≤ j → left f g m top v r j = 0#8
  | 0, _, j, hj => hf j (by omega)
  | r + 1, hr, j, hj => by
    unfold left
    by_cases e : j = m - 1 - r + top
    · have s : sh (m - 1 - r) g j = g top := by
        unfold sh
        rw [if_pos (by omega), show j - (m - 1 - r) = top by omega]
      rw [s, mul_assoc, hv, mul_one, ← e, BitVec.xor_self]
    · rw [left_out hf hg hv r (by omega) j (by omega)]
      have s : sh (m - 1 - r) g j = 0#8 := by
        unfold sh
        split
        · exact hg _ (by omega)
        · rfl
      rw [s, mul_zero, BitVec.xor_zero]
theorem left_sum {f g : Nat → BitVec 8} {m top : Nat} {v : BitVec 8} (j : Nat) : ∀ r, r ≤ m → left f g m top v r j ^^^ conv m (quo f g m top v) g j = f j ^^^ conv (m - r) (quo f g m top v) g j
  | 0, _ => rfl
  | r + 1, hr => by
    have ih := left_sum (f := f) (g := g) (m := m) (top := top) (v := v) j r (by omega)
    obtain ⟨k, hk⟩ : ∃ k, m - (r + 1) = k := ⟨_, rfl⟩
    have e : m - r = k + 1 := by omega
    rw [e] at ih
    have e2 : conv (k + 1) (quo f g m top v) g j = conv k (quo f g m top v) g j ^^^ mul (mul (left f g m top v r (k + top)) v) (sh k g j) := by
      show _ ^^^ mul (quo f g m top v k) _ = _
      congr 2
      unfold quo
      rw [if_pos (by omega), show m - 1 - k = r by omega]
    have e3 : left f g m top v (r + 1) j = left f g m top v r j ^^^ mul (mul (left f g m top v r (k + top)) v) (sh k g j) := by
      have e4 : left f g m top v (r + 1) j = left f g m top v r j ^^^ mul (mul (left f g m top v r (m - 1 - r + top)) v) (sh (m - 1 - r) g j) := rfl
      rw [e4, show m - 1 - r = k by omega]
    rw [e2] at ih
    rw [hk, e3]
    obtain ⟨a, ha⟩ : ∃ a, left f g m top v r j = a := ⟨_, rfl⟩
    obtain ⟨b, hb⟩ : ∃ b, mul (mul (left f g m top v r (k + top)) v) (sh k g j) = b := ⟨_, rfl⟩
    obtain ⟨c, hc⟩ : ∃ c, conv m (quo f g m top v) g j = c := ⟨_, rfl⟩
    obtain ⟨d, hd⟩ : ∃ d, conv k (quo f g m top v) g j = d := ⟨_, rfl⟩
    rw [ha, hb, hc, hd] at ih
    rw [ha, hb, hc, hd]
    have : (a ^^^ c) ^^^ b = (f j ^^^ (d ^^^ b)) ^^^ b := by rw [ih]
    rw [show (f j ^^^ (d ^^^ b)) ^^^ b = (f j ^^^ d) ^^^ (b ^^^ b) by ac_rfl, BitVec.xor_self, BitVec.xor_zero] at this
    rw [← this]
    ac_rfl
/-- How many rounds there are: the quotient's length. -/
def rounds (p q : List UInt8) : Nat := nn p - (nn q - 1)
def vv (q : List UInt8) : BitVec 8 := inv (co q (nn q - 1))
def quoF (p q : List UInt8) : Nat → BitVec 8 := quo (co p) (co q) (rounds p q) (nn q - 1) (vv q)
def remF (p q : List UInt8) : Nat → BitVec 8 := left (co p) (co q) (rounds p q) (nn q - 1) (vv q) (rounds p q)
def quotE (q : List UInt8) : Int := if nn q = 0 then 2 else 0
def quotV (p q : List UInt8) : List UInt8 := if nn q = 0 then [] else coefs (quoF p q) (rounds p q)
def restV (p q : List UInt8) : List UInt8 := if nn q = 0 then [] else pol (remF p q) (nn p)
theorem vv_mul {q : List UInt8} (h : nn q ≠ 0) : mul (vv q) (co q (nn q - 1)) = 1#8 := by
  unfold vv
  rw [mul_comm, mul_inv (nn_top (by omega))]
theorem left_far {f g : Nat → BitVec 8} {m top L : Nat} {v : BitVec 8} (hf : ∀ i, L ≤ i → f i = 0#8) (hg : ∀ i, top + 1 ≤ i → g i = 0#8) (hL : m + top ≤ L ∨ m = 0) : ∀ r, r ≤ m → ∀ j, L ≤ j → left f g m top v r j = 0#8
  | 0, _, j, hj => hf j hj
  | r + 1, hr, j, hj => by
    unfold left
    rw [left_far hf hg hL r (by omega) j hj]
    have s : sh (m - 1 - r) g j = 0#8 := by
      unfold sh
      split
      · exact hg _ (by omega)
      · rfl
    rw [s, mul_zero, BitVec.xor_zero]
theorem remF_out {p q : List UInt8} (hq : nn q ≠ 0) : ∀ j, nn p ≤ j → remF p q j = 0#8 :=
  left_far (fun _ h => nn_out h) (fun _ h => nn_out (by omega)) (by unfold rounds; omega) _ (Nat.le_refl _)
theorem remF_low {p q : List UInt8} (hq : nn q ≠ 0) : ∀ j, nn q - 1 ≤ j → remF p q j = 0#8 := fun j hj => by
  by_cases h : nn p ≤ nn q - 1
  · exact remF_out hq j (by omega)
  · have := left_out (f := co p) (g := co q) (m := rounds p q) (top := nn q - 1) (v := vv q) (fun i hi => nn_out (by unfold rounds at hi; omega)) (fun i hi => nn_out (by omega)) (vv_mul hq) (rounds p q) (Nat.le_refl _) j (by omega)
    exact this
theorem quoF_out (p q : List UInt8) : ∀ k, rounds p q ≤ k → quoF p q k = 0#8 := fun k h => by
  unfold quoF quo
  rw [if_neg (by omega)]
/-- The quotient is trimmed. -/
theorem quo_trim (p q : List UInt8) (hq : nn q ≠ 0) : pol (quoF p q) (rounds p q) = coefs (quoF p q) (rounds p q) := by
  unfold pol trim
  have e : nn (coefs (quoF p q) (rounds p q)) = rounds p q := by
    unfold nn
    rw [coefs_length]
    refine tn_unique (Nat.le_refl _) (fun i h1 h2 => by omega) (fun m hm => ?_)
    rw [co_coefs, if_pos (by omega)]
    unfold quoF quo
    rw [if_pos (by omega), show rounds p q - 1 - m = 0 by omega]
    exact mul_ne (nn_top (by unfold rounds at hm; omega)) (inv_ne _)
  rw [e]
  exact List.take_of_length_le (by rw [coefs_length]; exact Nat.le_refl _)
theorem quot_eq (p q : List UInt8) (hq : nn q ≠ 0) (j : Nat) : co p j = remF p q j ^^^ conv (rounds p q) (quoF p q) (co q) j := by
  have h := left_sum (f := co p) (g := co q) (m := rounds p q) (top := nn q - 1) (v := vv q) j (rounds p q) (Nat.le_refl _)
  rw [Nat.sub_self] at h
  have h2 : co p j ^^^ conv 0 (quoF p q) (co q) j = co p j := BitVec.xor_zero
  exact h2.symm.trans h.symm
theorem co_quotV {p q : List UInt8} (hq : nn q ≠ 0) (i : Nat) : co (quotV p q) i = quoF p q i := by
  unfold quotV
  rw [if_neg hq, co_coefs' (quoF_out p q)]
theorem co_restV {p q : List UInt8} (hq : nn q ≠ 0) (i : Nat) : co (restV p q) i = remF p q i := by
  unfold restV
  rw [if_neg hq, co_pol (remF_out hq)]
/-- p is the rest and the quotient times q. -/
theorem quot_sum (p q : List UInt8) (hq : nn q ≠ 0) : sumV (pol (prd (quotV p q) q) ((quotV p q).length + q.length)) (restV p q) = trim p := by
  rw [trim_pol]
  refine pol_eq (fun i => ?_) (sumF_out _ _) (fun i hi => co_out hi)
  unfold sumF
  rw [co_pol (prd_out _ _), co_restV hq, quot_eq p q hq i, BitVec.xor_comm]
  congr 1
  unfold prd
  rw [conv_congr (f' := quoF p q) (g' := co q) (fun _ => rfl) _ (fun i _ => co_quotV hq i) i]
  exact conv_any (fun i hi => by rw [← co_quotV hq]; exact co_out hi) (quoF_out p q) i
theorem nn_le_of {l : List UInt8} {m : Nat} (h : ∀ i, m ≤ i → co l i = 0#8) : nn l ≤ m := by
  apply Nat.le_of_not_lt
  intro hh
  obtain ⟨k, hk⟩ : ∃ k, nn l = k + 1 := ⟨nn l - 1, by omega⟩
  exact nn_top hk (h k (by omega))
theorem rest_less (p q : List UInt8) (hq : nn q ≠ 0) : nn (restV p q) < nn q := by
  have := nn_le_of (l := restV p q) (m := nn q - 1) (fun i hi => by rw [co_restV hq]; exact remF_low hq i hi)
  omega
theorem quot_length (p q : List UInt8) : (quotV p q).length ≤ nn p := by
  unfold quotV
  split
  · exact Nat.zero_le _
  · rw [coefs_length]; unfold rounds; omega
theorem rest_length (p q : List UInt8) : (restV p q).length ≤ nn p := by
  unfold restV
  split
  · exact Nat.zero_le _
  · exact pol_length_le _ _
theorem quot_congr {p q p' q' : List UInt8} (hp : ∀ i, co p i = co p' i) (hq : ∀ i, co q i = co q' i) : quotE q = quotE q' ∧ quotV p q = quotV p' q' ∧ restV p q = restV p' q' := by
  have n1 := nn_eq hp
  have n2 := nn_eq hq
  have ev : vv q = vv q' := by unfold vv; rw [n2, hq]
  have er : rounds p q = rounds p' q' := by unfold rounds; rw [n1, n2]
  have eq : ∀ k, quoF p q k = quoF p' q' k := fun k => by unfold quoF; rw [ev, er, n2, quo_congr hp hq]
  have el : ∀ k, remF p q k = remF p' q' k := fun k => by unfold remF; rw [ev, er, n2, left_congr hp hq]
  refine ⟨by unfold quotE; rw [n2], ?_, ?_⟩
  · unfold quotV
    rw [n2, er, coefs_congr (fun i _ => eq i)]
  · unfold restV
    rw [n2]
    split
    · rfl
    · rename_i h
      exact pol_eq el (remF_out (by rw [n2]; exact h)) (remF_out h)
theorem prod_congr {p q p' q' : List UInt8} (hp : ∀ i, co p i = co p' i) (hq : ∀ i, co q i = co q' i) : prodE p q = prodE p' q' ∧ prodV p q = prodV p' q' := by
  unfold prodE prodV
  rw [nn_eq hp, nn_eq hq]
  refine ⟨rfl, ?_⟩
  split
  · rfl
  · exact pol_eq (prd_congr hp hq) (prd_out _ _) (prd_out _ _)
theorem sum_congr {p q p' q' : List UInt8} (hp : ∀ i, co p i = co p' i) (hq : ∀ i, co q i = co q' i) : sumV p q = sumV p' q' :=
  pol_eq (fun i => by unfold sumF; rw [hp, hq]) (sumF_out _ _) (sumF_out _ _)
theorem der_congr {p p' : List UInt8} (hp : ∀ i, co p i = co p' i) : derV p = derV p' :=
  pol_eq (fun i => by unfold der; rw [hp]) (der_out _) (der_out _)
theorem sum_nil (p : List UInt8) : sumV p [] = trim p := by
  rw [trim_pol]
  exact pol_eq (fun i => by unfold sumF; rw [co_out (l := []) (Nat.zero_le _), BitVec.xor_zero]) (sumF_out _ _) (fun i hi => co_out hi)
/-- Bytes 0 behind make no difference. -/
theorem co_zeros (p : List UInt8) (n i : Nat) : co (p ++ List.replicate n 0) i = co p i := by
  unfold co
  rw [List.getD_eq_getElem?_getD, List.getD_eq_getElem?_getD, List.getElem?_append]
  split
  · rfl
  · rename_i h
    rw [List.getElem?_eq_none (l := p) (by omega), List.getElem?_replicate]
    split <;> rfl
end Gal
end Go.Proofs.Ytgcjfiablcjfgaa
/- Bytes in memory: blocks of bytes, worlds that differ in one block alone; exclusive or of bytes. -/
namespace Go.Proofs.Ytgcjfiablcjfgaa
open Go.RowKit
set_option linter.unusedVariables false

theorem xor8 (x y : BitVec 8) : bits .xor .u8 (x.toNat : Int) (y.toNat : Int) = ((x ^^^ y).toNat : Int) := by
  rw [u8_xor_nat _ _ x.isLt y.isLt, BitVec.toNat_xor]
theorem shl8 (x : BitVec 8) (k : Nat) : IntKind.u8.wrap ((x.toNat : Int) * 2 ^ k) = ((x <<< k).toNat : Int) := by
  rw [IntKind.wrap_u8, BitVec.toNat_shiftLeft, Nat.shiftLeft_eq]
  simp
/-- The worlds are the same but for the block c and new ones. -/
structure But (c : Nat) (w w' : World) : Prop where
  below : Below c w w'
  rest : ∀ b, b < w.heap.size → b ≠ c → w'.heap[b]? = w.heap[b]?
namespace But
variable {c : Nat} {w w1 w2 : World}
theorem refl (c : Nat) (w : World) : But c w w := ⟨Below.refl _ _, fun _ _ _ => rfl⟩
theorem trans (h : But c w w1) (k : But c w1 w2) : But c w w2 :=
  ⟨h.below.trans k.below, fun b hb hc => (k.rest b (Nat.lt_of_lt_of_le hb h.below.size) hc).trans (h.rest b hb hc)⟩
theorem of_below (h : Below w.heap.size w w1) (hc : c ≤ w.heap.size) : But c w w1 := ⟨h.mono hc, fun b hb _ => h.block b hb⟩
theorem setCell (h : But c w w1) (i : Nat) (v : Value) : But c w (w1.setCell ⟨c, i, none⟩ v) :=
  ⟨h.below.setCell (p := ⟨c, i, none⟩) (Nat.le_refl _) v, fun b hb hc => by
    rw [Below.heap_setCell _ _ _ _ (show b ≠ c from hc)]
    exact h.rest b hb hc⟩
theorem drew (h : But c w w1) : But c w w1.drew := ⟨h.below.drew, h.rest⟩
theorem row {k : IntKind} {n b : Nat} {t : TypeId} {f : Nat → Nat} (h : But c w w1) (R : RowK k n t w b f) (hb : b ≠ c) : RowK k n t w1 b f := by
  unfold RowK
  rw [h.rest b R.lt hb]
  exact R
end But
theorem addr_off {b o b' o' : Nat} (h : o ≠ o') : (⟨b, o, none⟩ : Addr) ≠ ⟨b', o', none⟩ := fun e => h (congrArg Addr.off e)
/-- The block b holds m numbers, and they may be written. -/
def NumsK (k : IntKind) (W : World) (b m : Nat) (f : Nat → Nat) : Prop := b < W.heap.size ∧ ∀ j, j < m → W.cell? ⟨b, j, none⟩ = some (.int k (f j : Nat)) ∧ W.frozen? ⟨b, j, none⟩ = false
namespace NumsK
variable {k : IntKind} {W W' : World} {b m : Nat} {f g : Nat → Nat}
theorem cell (h : NumsK k W b m f) {j : Nat} (hj : j < m) : W.cell? ⟨b, j, none⟩ = some (.int k (f j : Nat)) := (h.2 j hj).1
theorem frozen (h : NumsK k W b m f) {j : Nat} (hj : j < m) : W.frozen? ⟨b, j, none⟩ = false := (h.2 j hj).2
theorem congr (h : NumsK k W b m f) (e : ∀ j, j < m → f j = g j) : NumsK k W b m g := ⟨h.1, fun j hj => by rw [← e j hj]; exact h.2 j hj⟩
theorem set (h : NumsK k W b m f) (i x : Nat) (hi : i < m) (hx : g i = x) (hg : ∀ j, j < m → j ≠ i → g j = f j) : NumsK k (W.setCell ⟨b, i, none⟩ (.int k x)) b m g := by
  refine ⟨by rw [World.size_setCell]; exact h.1, fun j hj => ?_⟩
  obtain ⟨h1, h2⟩ := h.2 j hj
  refine ⟨?_, by rw [World.frozen?_setCell]; exact h2⟩
  by_cases e : j = i
  · subst e
    rw [World.cell?_setCell_same' _ _ _ (by rw [h1]; rfl), hx]
  · rw [World.cell?_setCell_other (h := addr_off (fun x => e x.symm)), hg j hj e]
    exact h1
theorem setOther (h : NumsK k W b m f) {c i : Nat} (hc : c ≠ b) (v : Value) : NumsK k (W.setCell ⟨c, i, none⟩ v) b m f := by
  refine ⟨by rw [World.size_setCell]; exact h.1, fun j hj => ?_⟩
  obtain ⟨h1, h2⟩ := h.2 j hj
  exact ⟨by rw [World.cell?_setCell_other (h := fun e => hc (congrArg Addr.block e))]; exact h1, by rw [World.frozen?_setCell]; exact h2⟩
theorem of_block (h : NumsK k W b m f) (e : W'.heap[b]? = W.heap[b]?) : NumsK k W' b m f := by
  refine ⟨?_, fun j hj => ?_⟩
  · apply Nat.lt_of_not_le
    intro hh
    rw [Array.getElem?_eq_none hh, Array.getElem?_eq_getElem h.1] at e
    cases e
  · obtain ⟨h1, h2⟩ := h.2 j hj
    exact ⟨(World.cell?_of_block (w := W) (a := ⟨b, j, none⟩) e).trans h1, (World.frozen?_of_block (w := W) (a := ⟨b, j, none⟩) e).trans h2⟩
theorem below (h : NumsK k W b m f) (hb : Below W.heap.size W W') : NumsK k W' b m f := h.of_block (hb.block b h.1)
theorem alloc (h : NumsK k W b m f) (o : Obj) : NumsK k (W.alloc o) b m f := h.of_block (Below.heap_alloc _ _ _ h.1)
theorem but {c : Nat} (h : NumsK k W b m f) (hb : But c W W') (hc : b ≠ c) : NumsK k W' b m f := h.of_block (hb.rest b h.1 hc)
end NumsK
theorem madeNums {k : IntKind} {w : World} {base b e n cap : Nat} (h : w.ownsRow base e 1 (.slice (some ⟨b, 0, none⟩) n cap) n (madeCells (Value.int k 0).cells (n * 1)).toList) : NumsK k w b n (fun _ => 0) := by
  obtain ⟨hl, h⟩ := h
  rcases h with ⟨hv, _⟩ | ⟨g, c, cur, hv, hb, hg, hnc, hm, hsz, ht⟩
  · simp at hv
  · simp only [Value.slice.injEq, Option.some.injEq, Addr.mk.injEq] at hv
    obtain ⟨⟨rfl, _, _⟩, _, rfl⟩ := hv
    refine ⟨(Array.getElem?_eq_some_iff.1 hg).1, fun j hj => ?_⟩
    have e1 : w.cell? ⟨b, j, none⟩ = cur[j]? := by
      unfold World.cell?
      rw [hg]
      simp
    have e2 : (cur.toList.take (n * 1))[j]? = cur[j]? := by
      rw [List.getElem?_take_of_lt (by omega)]
      simp
    refine ⟨?_, ?_⟩
    · rw [e1, ← e2, ht]
      unfold madeCells
      simp [Value.cells, hj, Nat.mod_one]
    · unfold World.frozen?
      rw [hg]
      simp
theorem byte_get (s : ByteArray) (i : Nat) (h : i < s.size) : s.data.toList[i]'(by simpa using h) = s[i] := by
  simp only [Array.getElem_toList]; rfl
theorem byte_at (s : ByteArray) (i : Nat) (h : i < s.size) : s.data.toList.getD i 0 = s[i] := by
  have h' : i < s.data.toList.length := by simpa using h
  rw [List.getD_eq_getElem?_getD, List.getElem?_eq_getElem h', Option.getD_some]
  exact byte_get s i h
theorem byte_co (s : ByteArray) (i : Nat) (h : i < s.size) : s[i].toNat = (Gal.co s.data.toList i).toNat := by rw [Gal.co_nat, byte_at s i h]
/-- A []byte made of a string. -/
theorem nums_new (s : ByteArray) (cap e : Nat) (w : World) : NumsK .u8 (w.alloc (.cells (bytesRow s cap) e ((bytesRow s cap).size, (bytesRow s cap).size + 1))) w.heap.size s.size (fun j => (Gal.co s.data.toList j).toNat) := by
  refine ⟨by rw [World.size_alloc]; omega, fun j h => ?_⟩
  have h' : j < s.data.size := by simpa using h
  refine ⟨?_, ?_⟩
  · rw [World.cell?_alloc_mark, bytesRow_at s cap j h']
    show some (Value.int .u8 (s[j].toNat : Int)) = some (Value.int .u8 ((Gal.co s.data.toList j).toNat : Nat))
    rw [byte_co s j h]
  · rw [World.frozen?_alloc_mark]
    have hz : (bytesRow s cap).size = s.data.size + (cap - s.size) := by unfold bytesRow; simp
    have : ¬ (bytesRow s cap).size ≤ j := by rw [hz]; omega
    simp [this]
/-- A string made of a []byte. -/
theorem nums_back {w : World} {b n : Nat} (cap : Nat) {f : Nat → BitVec 8} (h : NumsK .u8 w b n (fun j => (f j).toNat)) : (convert 40 9 (.slice (some ⟨b, 0, none⟩) n cap)).run Try.prog w = .ok (.string ⟨(Gal.coefs f n).toArray⟩) w := by
  have hl := Gal.coefs_length f n
  have := run_convert_bytes_back (P := Try.prog) w 40 9 5 ⟨b, 0, none⟩ cap (Gal.coefs f n) Try.underlying40 Try.underlying5 Try.underlying9 (fun j hj => by
    have e : (⟨b, 0, none⟩ : Addr).add j = ⟨b, j, none⟩ := by unfold Addr.add; split <;> simp_all
    rw [hl] at hj
    rw [e, h.cell hj]
    simp [Gal.coefs])
  rwa [hl] at this
theorem bytes_self (s : ByteArray) : (⟨s.data.toList.toArray⟩ : ByteArray) = s := by
  apply ByteArray.ext
  simp
theorem beq_no {s t : ByteArray} (h : s ≠ t) : (s == t) = false := by
  rw [Bool.eq_false_iff]
  intro e
  exact h (by
    have : s.data == t.data := e
    cases s
    cases t
    simp_all)
theorem take_bytes (s : ByteArray) (n : Nat) : (s.extract 0 n).data.toList = s.data.toList.take n := by
  simp
end Go.Proofs.Ytgcjfiablcjfgaa
