/- The field of 256 elements as registers of eight bits: products, powers, logarithms. -/
import Derived.Test.YtphkaambodecdaaCrcMath
namespace Go.Proofs.Ytphkaambodecdaa
namespace Gal
open Crc (Lin unit img it)
/-- The double of an element. -/
def dbl (a : BitVec 8) : BitVec 8 := if a.getLsbD 7 then (a <<< 1) ^^^ 0x1d#8 else a <<< 1
theorem lin : Lin dbl := fun x y => by
  unfold dbl
  rw [BitVec.getLsbD_xor, BitVec.shiftLeft_xor_distrib]
  cases x.getLsbD 7 <;> cases y.getLsbD 7 <;> simp
  · ac_rfl
  · ac_rfl
  · rw [show ∀ a b p : BitVec 8, (a ^^^ p) ^^^ (b ^^^ p) = (a ^^^ b) ^^^ (p ^^^ p) by intros; ac_rfl, BitVec.xor_self, BitVec.xor_zero]
/-- The product: for each bit of b so many doublings of a. -/
def mul (a b : BitVec 8) : BitVec 8 := img (fun i => it dbl i a) b 8
theorem img_xor_r {W : Nat} (c : Nat → BitVec W) (r s : BitVec W) : ∀ k, img c (r ^^^ s) k = img c r k ^^^ img c s k
  | 0 => by simp [img]
  | k + 1 => by
    unfold img
    rw [BitVec.getLsbD_xor, img_xor_r c r s k]
    cases r.getLsbD k <;> cases s.getLsbD k <;> simp
    · ac_rfl
    · ac_rfl
    · rw [show ∀ a b p : BitVec W, (a ^^^ p) ^^^ (b ^^^ p) = (a ^^^ b) ^^^ (p ^^^ p) by intros; ac_rfl, BitVec.xor_self, BitVec.xor_zero]
theorem img_xor_c {W : Nat} (c d : Nat → BitVec W) (r : BitVec W) : ∀ k, img (fun i => c i ^^^ d i) r k = img c r k ^^^ img d r k
  | 0 => by simp [img]
  | k + 1 => by
    unfold img
    rw [img_xor_c c d r k]
    cases r.getLsbD k <;> simp
    ac_rfl
theorem mul_xor (a b c : BitVec 8) : mul a (b ^^^ c) = mul a b ^^^ mul a c := img_xor_r _ _ _ _
theorem xor_mul (a b c : BitVec 8) : mul (a ^^^ b) c = mul a c ^^^ mul b c := by
  unfold mul
  rw [← img_xor_c]
  congr 1
  funext i
  exact Crc.it_lin lin i a b
theorem linr (a : BitVec 8) : Lin (mul a) := fun x y => mul_xor a x y
theorem linl (b : BitVec 8) : Lin (fun a => mul a b) := fun x y => xor_mul x y b
theorem comm8 : ∀ i, i < 8 → ∀ j, j < 8 → mul (unit i) (unit j) = mul (unit j) (unit i) := by decide +kernel
theorem mul_comm (a b : BitVec 8) : mul a b = mul b a :=
  (linl b).ext (linr b) (fun i hi => (linr (unit i)).ext (linl (unit i)) (fun j hj => comm8 i hi j hj) b) a
theorem assoc8 : ∀ i, i < 8 → ∀ j, j < 8 → ∀ k, k < 8 → mul (mul (unit i) (unit j)) (unit k) = mul (unit i) (mul (unit j) (unit k)) := by decide +kernel
theorem mul_assoc (a b c : BitVec 8) : mul (mul a b) c = mul a (mul b c) :=
  Lin.ext (f := fun a => mul (mul a b) c) (g := fun a => mul a (mul b c)) ((linl c).comp (linl b)) (linl _) (fun i hi =>
    Lin.ext (f := fun b => mul (mul (unit i) b) c) (g := fun b => mul (unit i) (mul b c)) ((linl c).comp (linr (unit i))) ((linr (unit i)).comp (linl c)) (fun j hj =>
      Lin.ext (f := fun c => mul (mul (unit i) (unit j)) c) (g := fun c => mul (unit i) (mul (unit j) c)) (linr _) ((linr (unit i)).comp (linr (unit j))) (fun k hk => assoc8 i hi j hj k hk) c) b) a
theorem mul_zero (a : BitVec 8) : mul a 0#8 = 0#8 := (linr a).zero
theorem zero_mul (a : BitVec 8) : mul 0#8 a = 0#8 := (linl a).zero
theorem one8 : ∀ i, i < 8 → mul 1#8 (unit i) = unit i := by decide +kernel
theorem one_mul (a : BitVec 8) : mul 1#8 a = a := Lin.ext (f := mul 1#8) (g := fun a => a) (linr _) (fun _ _ => rfl) one8 a
theorem mul_one (a : BitVec 8) : mul a 1#8 = a := by rw [mul_comm, one_mul]
theorem dbl8 : ∀ i, i < 8 → ∀ j, j < 8 → mul (dbl (unit i)) (unit j) = dbl (mul (unit i) (unit j)) := by decide +kernel
theorem dbl_mul (a b : BitVec 8) : mul (dbl a) b = dbl (mul a b) :=
  Lin.ext (f := fun a => mul (dbl a) b) (g := fun a => dbl (mul a b)) ((linl b).comp lin) (lin.comp (linl b)) (fun i hi =>
    Lin.ext (f := fun b => mul (dbl (unit i)) b) (g := fun b => dbl (mul (unit i) b)) (linr _) (lin.comp (linr _)) (fun j hj => dbl8 i hi j hj) b) a
theorem two_mul (a : BitVec 8) : mul a 2#8 = dbl a := by
  have h := dbl_mul 1#8 a
  rw [one_mul, show dbl 1#8 = 2#8 by decide] at h
  rw [mul_comm, h]

/-- The powers of 2. -/
def pw (k : Nat) : BitVec 8 := it dbl k 1#8
theorem pw_succ (k : Nat) : pw (k + 1) = dbl (pw k) := rfl
theorem pw_mul (b : BitVec 8) : ∀ k, mul (pw k) b = it dbl k b
  | 0 => one_mul b
  | k + 1 => by rw [pw_succ, dbl_mul, pw_mul b k]; rfl
theorem pw_add (j k : Nat) : mul (pw j) (pw k) = pw (j + k) := by
  rw [pw_mul]
  exact (Crc.it_add dbl k j 1#8).symm
def pwL : List Nat := [1, 2, 4, 8, 16, 32, 64, 128, 29, 58, 116, 232, 205, 135, 19, 38, 76, 152, 45, 90, 180, 117, 234, 201, 143, 3, 6, 12, 24, 48, 96, 192, 157, 39, 78, 156, 37, 74, 148, 53, 106, 212, 181, 119, 238, 193, 159, 35, 70, 140, 5, 10, 20, 40, 80, 160, 93, 186, 105, 210, 185, 111, 222, 161, 95, 190, 97, 194, 153, 47, 94, 188, 101, 202, 137, 15, 30, 60, 120, 240, 253, 231, 211, 187, 107, 214, 177, 127, 254, 225, 223, 163, 91, 182, 113, 226, 217, 175, 67, 134, 17, 34, 68, 136, 13, 26, 52, 104, 208, 189, 103, 206, 129, 31, 62, 124, 248, 237, 199, 147, 59, 118, 236, 197, 151, 51, 102, 204, 133, 23, 46, 92, 184, 109, 218, 169, 79, 158, 33, 66, 132, 21, 42, 84, 168, 77, 154, 41, 82, 164, 85, 170, 73, 146, 57, 114, 228, 213, 183, 115, 230, 209, 191, 99, 198, 145, 63, 126, 252, 229, 215, 179, 123, 246, 241, 255, 227, 219, 171, 75, 150, 49, 98, 196, 149, 55, 110, 220, 165, 87, 174, 65, 130, 25, 50, 100, 200, 141, 7, 14, 28, 56, 112, 224, 221, 167, 83, 166, 81, 162, 89, 178, 121, 242, 249, 239, 195, 155, 43, 86, 172, 69, 138, 9, 18, 36, 72, 144, 61, 122, 244, 245, 247, 243, 251, 235, 203, 139, 11, 22, 44, 88, 176, 125, 250, 233, 207, 131, 27, 54, 108, 216, 173, 71, 142]
def lgL : List Nat := [0, 0, 1, 25, 2, 50, 26, 198, 3, 223, 51, 238, 27, 104, 199, 75, 4, 100, 224, 14, 52, 141, 239, 129, 28, 193, 105, 248, 200, 8, 76, 113, 5, 138, 101, 47, 225, 36, 15, 33, 53, 147, 142, 218, 240, 18, 130, 69, 29, 181, 194, 125, 106, 39, 249, 185, 201, 154, 9, 120, 77, 228, 114, 166, 6, 191, 139, 98, 102, 221, 48, 253, 226, 152, 37, 179, 16, 145, 34, 136, 54, 208, 148, 206, 143, 150, 219, 189, 241, 210, 19, 92, 131, 56, 70, 64, 30, 66, 182, 163, 195, 72, 126, 110, 107, 58, 40, 84, 250, 133, 186, 61, 202, 94, 155, 159, 10, 21, 121, 43, 78, 212, 229, 172, 115, 243, 167, 87, 7, 112, 192, 247, 140, 128, 99, 13, 103, 74, 222, 237, 49, 197, 254, 24, 227, 165, 153, 119, 38, 184, 180, 124, 17, 68, 146, 217, 35, 32, 137, 46, 55, 63, 209, 91, 149, 188, 207, 205, 144, 135, 151, 178, 220, 252, 190, 97, 242, 86, 211, 171, 20, 42, 93, 158, 132, 60, 57, 83, 71, 109, 65, 162, 31, 45, 67, 216, 183, 123, 164, 118, 196, 23, 73, 236, 127, 12, 111, 246, 108, 161, 59, 82, 41, 157, 85, 170, 251, 96, 134, 177, 187, 204, 62, 90, 203, 89, 95, 176, 156, 169, 160, 81, 11, 245, 22, 235, 122, 117, 44, 215, 79, 174, 213, 233, 230, 231, 173, 232, 116, 214, 244, 234, 168, 80, 88, 175]
theorem pwL_step : ∀ k, k < 254 → dbl (BitVec.ofNat 8 (pwL.getD k 0)) = BitVec.ofNat 8 (pwL.getD (k + 1) 0) := by decide +kernel
theorem pwL_lt : ∀ k, k < 255 → pwL.getD k 0 < 256 ∧ pwL.getD k 0 ≠ 0 := by decide +kernel
theorem pw_eq : ∀ k, k < 255 → pw k = BitVec.ofNat 8 (pwL.getD k 0)
  | 0, _ => by decide +kernel
  | k + 1, h => by rw [pw_succ, pw_eq k (by omega), pwL_step k (by omega)]
theorem pw_nat (k : Nat) (h : k < 255) : (pw k).toNat = pwL.getD k 0 := by
  rw [pw_eq k h, BitVec.toNat_ofNat]
  exact Nat.mod_eq_of_lt (pwL_lt k h).1
theorem pw_255 : pw 255 = 1#8 := by
  rw [pw_succ, pw_eq 254 (by omega)]
  decide +kernel
theorem pw_round (k : Nat) : pw (k + 255) = pw k := by
  unfold pw
  rw [Crc.it_add dbl 255 k, show it dbl 255 1#8 = 1#8 from pw_255]
theorem pw_rounds (r : Nat) : ∀ q, pw (255 * q + r) = pw r
  | 0 => by rw [Nat.mul_zero, Nat.zero_add]
  | q + 1 => by rw [show 255 * (q + 1) + r = 255 * q + r + 255 by omega, pw_round, pw_rounds r q]
theorem pw_mod (k : Nat) : pw (k % 255) = pw k := by
  have h := pw_rounds (k % 255) (k / 255)
  rw [show 255 * (k / 255) + k % 255 = k by omega] at h
  exact h.symm
theorem pw_ne (k : Nat) : pw k ≠ 0#8 := by
  rw [← pw_mod]
  intro h
  have := congrArg BitVec.toNat h
  rw [pw_nat _ (by omega)] at this
  exact (pwL_lt (k % 255) (by omega)).2 this
/-- The logarithm; that of 0 is 0. -/
def lg (a : BitVec 8) : Nat := lgL.getD a.toNat 0
theorem lgL_lt : ∀ a, a < 256 → lgL.getD a 0 < 255 := by decide +kernel
theorem lgL_pw : ∀ a, a < 256 → a ≠ 0 → pwL.getD (lgL.getD a 0) 0 = a := by decide +kernel
theorem pwL_lg : ∀ k, k < 255 → lgL.getD (pwL.getD k 0) 0 = k := by decide +kernel
theorem lg_lt (a : BitVec 8) : lg a < 255 := lgL_lt _ a.isLt
theorem pw_lg {a : BitVec 8} (h : a ≠ 0#8) : pw (lg a) = a := by
  apply BitVec.eq_of_toNat_eq
  rw [pw_nat _ (lg_lt a)]
  exact lgL_pw _ a.isLt (fun e => h (BitVec.eq_of_toNat_eq e))
theorem lg_pw {k : Nat} (h : k < 255) : lg (pw k) = k := by
  unfold lg
  rw [pw_nat k h]
  exact pwL_lg k h
theorem lg_zero : lg 0#8 = 0 := by decide +kernel
theorem mul_eq {a b : BitVec 8} (ha : a ≠ 0#8) (hb : b ≠ 0#8) : mul a b = pw ((lg a + lg b) % 255) := by
  rw [pw_mod, ← pw_add, pw_lg ha, pw_lg hb]
theorem mul_ne {a b : BitVec 8} (ha : a ≠ 0#8) (hb : b ≠ 0#8) : mul a b ≠ 0#8 := by rw [mul_eq ha hb]; exact pw_ne _
/-- The inverse of an element other than 0. -/
def inv (a : BitVec 8) : BitVec 8 := pw ((255 - lg a) % 255)
theorem mul_inv {a : BitVec 8} (h : a ≠ 0#8) : mul a (inv a) = 1#8 := by
  have hl := lg_lt a
  unfold inv
  rw [pw_mod]
  have e : mul (pw (lg a)) (pw (255 - lg a)) = 1#8 := by
    rw [pw_add, show lg a + (255 - lg a) = 255 by omega, pw_255]
  rwa [pw_lg h] at e
theorem inv_ne (a : BitVec 8) : inv a ≠ 0#8 := pw_ne _
theorem div_mul {a b : BitVec 8} (h : b ≠ 0#8) : mul (mul a (inv b)) b = a := by
  rw [mul_assoc, mul_comm (inv b) b, mul_inv h, mul_one]
theorem div_unique {a b c : BitVec 8} (h : b ≠ 0#8) (e : mul c b = a) : c = mul a (inv b) := by
  rw [← e, mul_assoc, mul_inv h, mul_one]
/-- Quotients. -/
def divE (b : BitVec 8) : Int := if b = 0#8 then 2 else 0
def divV (a b : BitVec 8) : BitVec 8 := if b = 0#8 then 0#8 else mul a (inv b)
/-- The power whose exponent is any number. -/
def pwi (k : Int) : BitVec 8 := pw (k % 255).toNat
theorem pwi_add (j k : Int) : mul (pwi j) (pwi k) = pwi (j + k) := by
  unfold pwi
  rw [pw_add, ← pw_mod]
  congr 1
  omega
theorem pwi_nat (k : Nat) : pwi (k : Int) = pw k := by
  unfold pwi
  rw [show ((k : Int) % 255).toNat = k % 255 by omega, pw_mod]
theorem pwi_mod (k : Int) : pwi (k % 255) = pwi k := by
  unfold pwi
  rw [Int.emod_emod_of_dvd k (Int.dvd_refl 255)]
theorem pwi_neg (a : BitVec 8) : pwi (-(lg a : Int)) = inv a := by
  have hl := lg_lt a
  unfold pwi inv
  congr 1
  omega
def powE (a : BitVec 8) (n : Int) : Int := if a = 0#8 ∧ n < 0 then 2 else 0
def powV (a : BitVec 8) (n : Int) : BitVec 8 := if a = 0#8 then (if n = 0 then 1#8 else 0#8) else pwi ((lg a : Int) * n)
theorem mul_mod (l n : Int) : (l * (n.tmod 255)) % 255 = (l * n) % 255 := by
  have h : n = 255 * (n.tdiv 255) + n.tmod 255 := (Int.mul_tdiv_add_tmod n 255).symm
  obtain ⟨q, hq⟩ : ∃ q, n.tdiv 255 = q := ⟨_, rfl⟩
  obtain ⟨r, hr⟩ : ∃ q, n.tmod 255 = q := ⟨_, rfl⟩
  rw [hq, hr] at h
  rw [hr, h, Int.mul_add, ← Int.mul_assoc, Int.mul_comm l 255, Int.mul_assoc, Int.add_comm, Int.add_mul_emod_self_left]
theorem pow_tmod (a : BitVec 8) (n : Int) : pwi ((lg a : Int) * n.tmod 255) = pwi ((lg a : Int) * n) := by
  rw [← pwi_mod, mul_mod, pwi_mod]
theorem powV_add {a : BitVec 8} (h : a ≠ 0#8) (j k : Int) : mul (powV a j) (powV a k) = powV a (j + k) := by
  unfold powV
  rw [if_neg h, if_neg h, if_neg h, pwi_add, Int.mul_add]
theorem powV_round {a : BitVec 8} (h : a ≠ 0#8) (k : Int) : powV a (k + 255) = powV a k := by
  unfold powV
  rw [if_neg h, if_neg h, Int.mul_add, ← pwi_mod, Int.add_mul_emod_self_right, pwi_mod]
/-- The product of so many factors. -/
def pown (a : BitVec 8) : Nat → BitVec 8
  | 0 => 1#8
  | n + 1 => mul (pown a n) a
theorem pown_zero (n : Nat) : pown 0#8 (n + 1) = 0#8 := mul_zero (pown 0#8 n)
theorem pown_eq {a : BitVec 8} (h : a ≠ 0#8) : ∀ n : Nat, pown a n = pwi ((lg a : Int) * n)
  | 0 => by unfold pown pwi; simp; rfl
  | n + 1 => by
    unfold pown
    rw [pown_eq h n, show (((n + 1 : Nat) : Int)) = (n : Int) + 1 by omega, Int.mul_add, Int.mul_one, ← pwi_add, pwi_nat, pw_lg h]
theorem pow_pown (a : BitVec 8) (n : Int) : a ≠ 0#8 ∨ n = 0 → powV a n = pown a (n % 255).toNat := by
  intro hh
  by_cases h : a = 0#8
  · have e : n = 0 := by rcases hh with hh | hh; exact absurd h hh; exact hh
    subst e
    unfold powV
    rw [if_pos h, if_pos rfl]
    rfl
  · rw [pown_eq h]
    unfold powV
    rw [if_neg h, ← pwi_mod]
    have e : (((n % 255).toNat : Nat) : Int) = n % 255 := by omega
    rw [e, ← pwi_mod ((lg a : Int) * (n % 255))]
    congr 1
    rw [Int.mul_emod, Int.mul_emod (lg a : Int) (n % 255), Int.emod_emod_of_dvd n (Int.dvd_refl 255)]
/-- Logarithms. -/
def logOk (a : BitVec 8) : Bool := decide (a ≠ 0#8)
theorem logL_first : ∀ a, a < 256 → ∀ k, k < 255 → pwL.getD k 0 = a → lgL.getD a 0 = k := fun a _ k hk e => by rw [← e]; exact pwL_lg k hk
/-- The reference's double, in numbers. -/
theorem dbl_nat : ∀ x, x < 256 → (dbl (BitVec.ofNat 8 x)).toNat = if 256 ≤ x * 2 then (x * 2) ^^^ 285 else x * 2 := by decide +kernel
/-- The tables: 255 powers, 256 logarithms. -/
def tab (i : Nat) : Nat := if i < 255 then (pw i).toNat else lg (BitVec.ofNat 8 (i - 255))
def tabk (k i : Nat) : Nat := if i < 255 then (if i < k then (pw i).toNat else 0) else (if lg (BitVec.ofNat 8 (i - 255)) < k then lg (BitVec.ofNat 8 (i - 255)) else 0)
theorem tabk_zero (i : Nat) : tabk 0 i = 0 := by unfold tabk; simp
theorem tabk_all (i : Nat) : tabk 255 i = tab i := by
  unfold tabk tab
  by_cases h : i < 255
  · rw [if_pos h, if_pos h, if_pos h]
  · rw [if_neg h, if_neg h, if_pos (lg_lt _)]
theorem tabk_succ (k i : Nat) (hk : k < 255) (hi : i < 511) : tabk (k + 1) i = if i = 255 + (pw k).toNat then k else if i = k then (pw k).toNat else tabk k i := by
  have hp : (pw k).toNat < 256 := (pw k).isLt
  unfold tabk
  by_cases h : i < 255
  · rw [if_pos h, if_pos h, if_neg (show ¬ i = 255 + (pw k).toNat by omega)]
    by_cases e : i = k
    · subst e; rw [if_pos (show i < i + 1 by omega), if_pos rfl]
    · rw [if_neg e]
      by_cases g : i < k
      · rw [if_pos g, if_pos (show i < k + 1 by omega)]
      · rw [if_neg g, if_neg (show ¬ i < k + 1 by omega)]
  · rw [if_neg h, if_neg h, if_neg (show ¬ i = k by omega)]
    obtain ⟨x, hx⟩ : ∃ x, BitVec.ofNat 8 (i - 255) = x := ⟨_, rfl⟩
    have xn : x.toNat = i - 255 := by rw [← hx, BitVec.toNat_ofNat]; omega
    rw [hx]
    by_cases e : i = 255 + (pw k).toNat
    · have ex : x = pw k := BitVec.eq_of_toNat_eq (by omega)
      rw [if_pos e, ex, lg_pw hk, if_pos (show k < k + 1 by omega)]
    · rw [if_neg e]
      by_cases g : lg x < k
      · rw [if_pos g, if_pos (show lg x < k + 1 by omega)]
      · rw [if_neg g]
        by_cases g2 : lg x < k + 1
        · rw [if_pos g2]
          have lk : lg x = k := by omega
          by_cases x0 : x = 0#8
          · rw [x0, lg_zero]
          · exfalso
            apply e
            rw [← lk, pw_lg x0]
            omega
        · rw [if_neg g2]
theorem tab_log (a : BitVec 8) : tab (255 + a.toNat) = lg a := by
  unfold tab
  rw [if_neg (by omega), show 255 + a.toNat - 255 = a.toNat by omega]
  congr 1
  apply BitVec.eq_of_toNat_eq
  rw [BitVec.toNat_ofNat]
  exact Nat.mod_eq_of_lt a.isLt
theorem tab_pow (k : Nat) (h : k < 255) : tab k = (pw k).toNat := by
  unfold tab
  rw [if_pos h]
end Gal
end Go.Proofs.Ytphkaambodecdaa
