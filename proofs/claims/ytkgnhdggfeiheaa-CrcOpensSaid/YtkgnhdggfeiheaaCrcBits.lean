/- Registers that take bits, and changes within a window of bits: plain mathematics. -/
import Derived.Test.YtkgnhdggfeiheaaCrcMath
namespace Go.Proofs.Ytkgnhdggfeiheaa
namespace Crc
section
variable {W : Nat}
/-- A register takes the bits f 0, f 1, .. : each one is combined at e 0, then the register moves on by L. -/
def bf (L : BitVec W → BitVec W) (e : Nat → BitVec W) (r : BitVec W) (f : Nat → Bool) : Nat → BitVec W
  | 0 => r
  | n + 1 => L (bf L e r f n ^^^ (if f n then e 0 else 0#W))
def top (e : Nat → BitVec W) (f : Nat → Bool) : Nat → BitVec W
  | 0 => 0#W
  | n + 1 => top e f n ^^^ (if f n then e n else 0#W)
structure Reg (L : BitVec W → BitVec W) (e : Nat → BitVec W) (π : Nat → Nat) : Prop where
  lin : Lin L
  inj : ∀ x y, L x = L y → x = y
  back : ∀ m, m < W → it L m (e m) = e 0
  pos : ∀ j, j < W → e j = unit (π j)
  lt : ∀ j, j < W → π j < W
  one : ∀ i j, i < W → j < W → π i = π j → i = j
variable {L : BitVec W → BitVec W} {e : Nat → BitVec W} {π : Nat → Nat}
theorem bf_congr {r : BitVec W} {f g : Nat → Bool} : ∀ n, (∀ j, j < n → f j = g j) → bf L e r f n = bf L e r g n
  | 0, _ => rfl
  | n + 1, h => by
    unfold bf
    rw [bf_congr n (fun j hj => h j (by omega)), h n (by omega)]
theorem bf_add (r : BitVec W) (f : Nat → Bool) (a : Nat) : ∀ b, bf L e r f (a + b) = bf L e (bf L e r f a) (fun j => f (a + j)) b
  | 0 => rfl
  | b + 1 => by
    show bf L e r f (a + b + 1) = _
    unfold bf
    rw [bf_add r f a b]
theorem bf_top (H : Reg L e π) (r : BitVec W) (f : Nat → Bool) : ∀ m, m ≤ W → bf L e r f m = it L m (r ^^^ top e f m)
  | 0, _ => by simp [bf, top, it]
  | m + 1, h => by
    unfold bf top
    rw [bf_top H r f m (by omega), ← BitVec.xor_assoc]
    show _ = L (it L m _)
    have a := it_lin H.lin m (r ^^^ top e f m) (if f m then e m else 0#W)
    rw [a]
    congr 2
    split
    · exact (H.back m (by omega)).symm
    · exact (it_lin H.lin m).zero.symm
theorem bf_inj (H : Reg L e π) (f : Nat → Bool) : ∀ n (r s : BitVec W), bf L e r f n = bf L e s f n → r = s
  | 0, _, _, h => h
  | n + 1, r, s, h => by
    unfold bf at h
    have h2 := H.inj _ _ h
    have h3 := congrArg (fun x => x ^^^ (if f n then e 0 else 0#W)) h2
    simp only [BitVec.xor_assoc, BitVec.xor_self, BitVec.xor_zero] at h3
    exact bf_inj H f n r s h3
theorem top_bit (H : Reg L e π) (f : Nat → Bool) (i : Nat) (hi : i < W) : ∀ m, m ≤ W → (top e f m).getLsbD (π i) = (decide (i < m) && f i)
  | 0, _ => by simp [top]
  | m + 1, h => by
    have hp := H.lt i hi
    unfold top
    rw [BitVec.getLsbD_xor, top_bit H f i hi m (by omega)]
    by_cases g : i = m
    · subst g
      have : ¬ i < i := by omega
      cases hf : f i
      · simp
      · simp only [if_true]
        rw [H.pos i hi, unit_bit]
        simp [hp]
    · have hb : (if f m then e m else 0#W).getLsbD (π i) = false := by
        split
        · rw [H.pos m (by omega), unit_bit, decide_eq_false (fun x => g (H.one i m hi (by omega) x)), Bool.and_false]
        · simp
      rw [hb, Bool.xor_false]
      by_cases l : i < m
      · rw [decide_eq_true l, decide_eq_true (show i < m + 1 by omega)]
      · rw [decide_eq_false l, decide_eq_false (show ¬ i < m + 1 by omega)]
theorem xor_left {x y z : BitVec W} (h : x ^^^ y = x ^^^ z) : y = z := by
  have := congrArg (fun u => x ^^^ u) h
  simpa only [← BitVec.xor_assoc, BitVec.xor_self, BitVec.zero_xor] using this
/-- A change within a window of W bits is seen. -/
theorem burst (H : Reg L e π) (r : BitVec W) (f g : Nat → Bool) (k m c : Nat) (hm : m ≤ W) (h1 : ∀ j, j < k → f j = g j) (h2 : ∀ j, k + m ≤ j → j < k + m + c → f j = g j)
    (h : bf L e r f (k + m + c) = bf L e r g (k + m + c)) : ∀ j, j < k + m + c → f j = g j := by
  rw [bf_add, bf_add, bf_add, bf_add, bf_congr k h1] at h
  have c1 : bf L e (bf L e (bf L e r g k) (fun j => g (k + j)) m) (fun j => f (k + m + j)) c = bf L e (bf L e (bf L e r g k) (fun j => g (k + j)) m) (fun j => g (k + m + j)) c :=
    bf_congr c (fun j hj => h2 _ (by omega) (by omega))
  rw [← c1] at h
  have h3 := bf_inj H _ c _ _ h
  rw [bf_top H _ _ m hm, bf_top H _ _ m hm] at h3
  have h4 := xor_left (it_inj H.inj m _ _ h3)
  intro j hj
  by_cases a : j < k
  · exact h1 j a
  · by_cases b : j < k + m
    · have t1 := top_bit H (fun j => f (k + j)) (j - k) (by omega) m hm
      have t2 := top_bit H (fun j => g (k + j)) (j - k) (by omega) m hm
      rw [h4, t2, decide_eq_true (show j - k < m by omega), Bool.true_and, Bool.true_and] at t1
      have e : k + (j - k) = j := by omega
      simp only [e] at t1
      exact t1.symm
    · exact h2 j (by omega) hj
end
/-- How the registers move back. -/
def I16 (r : BitVec 16) : BitVec 16 := if r.getLsbD 0 then (r >>> 1) ^^^ 0x8810#16 else r >>> 1
def I32 (r : BitVec 32) : BitVec 32 := if r.getLsbD 31 then (r <<< 1) ^^^ 0xdb710641#32 else r <<< 1
theorem linI16 : Lin I16 := fun x y => by
  unfold I16
  rw [BitVec.getLsbD_xor, BitVec.ushiftRight_xor_distrib]
  cases x.getLsbD 0 <;> cases y.getLsbD 0 <;> simp
  · ac_rfl
  · ac_rfl
  · rw [show ∀ a b p : BitVec 16, (a ^^^ p) ^^^ (b ^^^ p) = (a ^^^ b) ^^^ (p ^^^ p) by intros; ac_rfl, BitVec.xor_self, BitVec.xor_zero]
theorem linI32 : Lin I32 := fun x y => by
  unfold I32
  rw [BitVec.getLsbD_xor, BitVec.shiftLeft_xor_distrib]
  cases x.getLsbD 31 <;> cases y.getLsbD 31 <;> simp
  · ac_rfl
  · ac_rfl
  · rw [show ∀ a b p : BitVec 32, (a ^^^ p) ^^^ (b ^^^ p) = (a ^^^ b) ^^^ (p ^^^ p) by intros; ac_rfl, BitVec.xor_self, BitVec.xor_zero]
theorem linId {W : Nat} : Lin (fun x : BitVec W => x) := fun _ _ => rfl
theorem back16 : ∀ i, i < 16 → I16 (L16 (unit i)) = unit i := by decide +kernel
theorem back32 : ∀ i, i < 32 → I32 (L32 (unit i)) = unit i := by decide +kernel
theorem inj16 (x y : BitVec 16) (h : L16 x = L16 y) : x = y := by
  have a := (linI16.comp lin16).ext linId back16
  rw [← a x, ← a y, h]
theorem inj32 (x y : BitVec 32) (h : L32 x = L32 y) : x = y := by
  have a := (linI32.comp lin32).ext linId back32
  rw [← a x, ← a y, h]
def e16 (j : Nat) : BitVec 16 := unit (15 - j)
def e32 (j : Nat) : BitVec 32 := unit j
theorem reg16 : Reg L16 e16 (fun j => 15 - j) := ⟨lin16, inj16, by decide +kernel, fun _ _ => rfl, fun j h => by show 15 - j < 16; omega, fun i j h1 h2 (h : 15 - i = 15 - j) => by omega⟩
theorem reg32 : Reg L32 e32 (fun j => j) := ⟨lin32, inj32, by decide +kernel, fun _ _ => rfl, fun j h => h, fun i j h1 h2 h => h⟩
/-- The bits of a string: the highest one of a byte first; the lowest one first. -/
def hb (l : List UInt8) (p : Nat) : Bool := decide ((l.getD (p / 8) 0).toNat / 2 ^ (7 - p % 8) % 2 = 1)
def lb (l : List UInt8) (p : Nat) : Bool := decide ((l.getD (p / 8) 0).toNat / 2 ^ (p % 8) % 2 = 1)
theorem step_hb (r : BitVec 16) (x : Nat) (hx : x < 2) : L16 (r ^^^ (if decide (x = 1) then e16 0 else 0#16)) = B16 r x := by
  rw [B16_L r x hx]
  rcases (show x = 0 ∨ x = 1 by omega) with rfl | rfl <;> rfl
theorem step_lb (r : BitVec 32) (x : Nat) (hx : x < 2) : L32 (r ^^^ (if decide (x = 1) then e32 0 else 0#32)) = B32 r x := by
  rw [B32_L r x hx]
  rcases (show x = 0 ∨ x = 1 by omega) with rfl | rfl <;> rfl
theorem bf_byte16 (r : BitVec 16) (l : List UInt8) (k : Nat) : ∀ j, j ≤ 8 → bf L16 e16 r (hb l) (8 * k + j) = R16 (bf L16 e16 r (hb l) (8 * k)) (l.getD k 0).toNat j
  | 0, _ => rfl
  | j + 1, h => by
    have e1 : hb l (8 * k + j) = decide ((l.getD k 0).toNat / 2 ^ (7 - j) % 2 = 1) := by
      unfold hb
      rw [show (8 * k + j) / 8 = k by omega, show (8 * k + j) % 8 = j by omega]
    show L16 (bf L16 e16 r (hb l) (8 * k + j) ^^^ (if hb l (8 * k + j) then e16 0 else 0#16)) = B16 (R16 (bf L16 e16 r (hb l) (8 * k)) (l.getD k 0).toNat j) ((l.getD k 0).toNat / 2 ^ (7 - j) % 2)
    rw [bf_byte16 r l k j (by omega), e1]
    exact step_hb _ _ (Nat.mod_lt _ (by omega))
theorem bf_byte32 (r : BitVec 32) (l : List UInt8) (k : Nat) : ∀ j, j ≤ 8 → bf L32 e32 r (lb l) (8 * k + j) = R32 (bf L32 e32 r (lb l) (8 * k)) (l.getD k 0).toNat j
  | 0, _ => rfl
  | j + 1, h => by
    have e1 : lb l (8 * k + j) = decide ((l.getD k 0).toNat / 2 ^ (j) % 2 = 1) := by
      unfold lb
      rw [show (8 * k + j) / 8 = k by omega, show (8 * k + j) % 8 = j by omega]
    show L32 (bf L32 e32 r (lb l) (8 * k + j) ^^^ (if lb l (8 * k + j) then e32 0 else 0#32)) = B32 (R32 (bf L32 e32 r (lb l) (8 * k)) (l.getD k 0).toNat j) ((l.getD k 0).toNat / 2 ^ (j) % 2)
    rw [bf_byte32 r l k j (by omega), e1]
    exact step_lb _ _ (Nat.mod_lt _ (by omega))
theorem bf_take16 (r : BitVec 16) (l : List UInt8) : ∀ k, k ≤ l.length → bf L16 e16 r (hb l) (8 * k) = N16 r (l.take k)
  | 0, _ => rfl
  | k + 1, h => by
    rw [show 8 * (k + 1) = 8 * k + 8 by omega, bf_byte16 r l k 8 (by omega), R16_S _ _ (UInt8.toNat_lt _), bf_take16 r l k (by omega), N16_take r l k (by omega)]
    congr 2
    simp [List.getD, List.getElem?_eq_getElem (show k < l.length by omega)]
theorem bf_take32 (r : BitVec 32) (l : List UInt8) : ∀ k, k ≤ l.length → bf L32 e32 r (lb l) (8 * k) = N32 r (l.take k)
  | 0, _ => rfl
  | k + 1, h => by
    rw [show 8 * (k + 1) = 8 * k + 8 by omega, bf_byte32 r l k 8 (by omega), R32_S _ _ (UInt8.toNat_lt _), bf_take32 r l k (by omega), N32_take r l k (by omega)]
    congr 2
    simp [List.getD, List.getElem?_eq_getElem (show k < l.length by omega)]
theorem bf_sum16 (l : List UInt8) : bf L16 e16 0xffff#16 (hb l) (8 * l.length) = sum16 l := by
  rw [bf_take16 _ l _ (Nat.le_refl _), List.take_length]
  rfl
theorem bf_sum32 (l : List UInt8) : bf L32 e32 (~~~ 0#32) (lb l) (8 * l.length) = ~~~ sum32 l := by
  rw [bf_take32 _ l _ (Nat.le_refl _), List.take_length]
  unfold sum32 next32
  rw [BitVec.not_not]
theorem byte_ext (x y : UInt8) (h : ∀ i, i < 8 → (x.toNat / 2 ^ i % 2 = 1 ↔ y.toNat / 2 ^ i % 2 = 1)) : x = y := by
  apply UInt8.toNat_inj.1
  apply Nat.eq_of_testBit_eq
  intro i
  by_cases hi : i < 8
  · rw [Nat.testBit_eq_decide_div_mod_eq, Nat.testBit_eq_decide_div_mod_eq]
    exact decide_eq_decide.2 (h i hi)
  · have a : x.toNat < 2 ^ i := Nat.lt_of_lt_of_le (UInt8.toNat_lt x) (Nat.pow_le_pow_right (n := 2) (by omega) (show 8 ≤ i by omega))
    have b : y.toNat < 2 ^ i := Nat.lt_of_lt_of_le (UInt8.toNat_lt y) (Nat.pow_le_pow_right (n := 2) (by omega) (show 8 ≤ i by omega))
    rw [Nat.testBit_lt_two_pow a, Nat.testBit_lt_two_pow b]
theorem hb_ext (a b : List UInt8) (h : a.length = b.length) (k : ∀ p, p < 8 * a.length → hb a p = hb b p) : a = b := by
  apply List.ext_getElem h
  intro j h1 h2
  apply byte_ext
  intro i hi
  have e := k (8 * j + (7 - i)) (by omega)
  unfold hb at e
  rw [show (8 * j + (7 - i)) / 8 = j by omega, show 7 - (8 * j + (7 - i)) % 8 = i by omega] at e
  simp only [List.getD, List.getElem?_eq_getElem h1, List.getElem?_eq_getElem h2, Option.getD_some] at e
  exact decide_eq_decide.1 e
theorem lb_ext (a b : List UInt8) (h : a.length = b.length) (k : ∀ p, p < 8 * a.length → lb a p = lb b p) : a = b := by
  apply List.ext_getElem h
  intro j h1 h2
  apply byte_ext
  intro i hi
  have e := k (8 * j + i) (by omega)
  unfold lb at e
  rw [show (8 * j + i) / 8 = j by omega, show (8 * j + i) % 8 = i by omega] at e
  simp only [List.getD, List.getElem?_eq_getElem h1, List.getElem?_eq_getElem h2, Option.getD_some] at e
  exact decide_eq_decide.1 e
/-- A string with bit d of byte j inverted. -/
def inv (l : List UInt8) (j d : Nat) : List UInt8 := l.set j (UInt8.ofNat ((l.getD j 0).toNat ^^^ 2 ^ d))
theorem inv_length (l : List UInt8) (j d : Nat) : (inv l j d).length = l.length := by unfold inv; simp
theorem inv_byte : ∀ y, y < 256 → ∀ d, d < 8 → (y ^^^ 2 ^ d) < 256 ∧ ∀ i, i < 8 → (decide ((y ^^^ 2 ^ d) / 2 ^ i % 2 = 1)) = ((decide (y / 2 ^ i % 2 = 1)) != decide (i = d)) := by decide +kernel
theorem inv_at (l : List UInt8) (j d : Nat) (hj : j < l.length) (hd : d < 8) : ((inv l j d).getD j 0).toNat = (l.getD j 0).toNat ^^^ 2 ^ d := by
  unfold inv
  rw [List.getD_eq_getElem?_getD, List.getElem?_set_self hj, Option.getD_some]
  exact UInt8.toNat_ofNat_of_lt' (inv_byte _ (UInt8.toNat_lt _) d hd).1
theorem inv_off (l : List UInt8) (i j d : Nat) (h : i ≠ j) : (inv l j d).getD i 0 = l.getD i 0 := by
  unfold inv
  rw [List.getD_eq_getElem?_getD, List.getElem?_set_ne (Ne.symm h), ← List.getD_eq_getElem?_getD]
theorem hb_inv (l : List UInt8) (p q : Nat) (hp : p < 8 * l.length) : hb (inv l (p / 8) (7 - p % 8)) q = (hb l q != decide (q = p)) := by
  unfold hb
  by_cases g : q / 8 = p / 8
  · rw [g, inv_at l _ _ (by omega) (by omega), (inv_byte _ (UInt8.toNat_lt _) (7 - p % 8) (by omega)).2 (7 - q % 8) (by omega)]
    congr 1
    exact decide_eq_decide.2 (by omega)
  · rw [inv_off l _ _ _ g, decide_eq_false (show ¬ q = p by intro h; subst h; exact g rfl), Bool.bne_false]
theorem lb_inv (l : List UInt8) (p q : Nat) (hp : p < 8 * l.length) : lb (inv l (p / 8) (p % 8)) q = (lb l q != decide (q = p)) := by
  unfold lb
  by_cases g : q / 8 = p / 8
  · rw [g, inv_at l _ _ (by omega) (by omega), (inv_byte _ (UInt8.toNat_lt _) (p % 8) (by omega)).2 (q % 8) (by omega)]
    congr 1
    exact decide_eq_decide.2 (by omega)
  · rw [inv_off l _ _ _ g, decide_eq_false (show ¬ q = p by intro h; subst h; exact g rfl), Bool.bne_false]
/-- What the law's loop makes of a string. -/
def short (l : List UInt8) (k c : Nat) : Nat → List UInt8
  | 0 => l
  | i + 1 => if i < 16 ∧ c / 2 ^ i % 2 = 1 then inv (short l k c i) ((k + i) / 8) (7 - (k + i) % 8) else short l k c i
def long (l : List UInt8) (k c : Nat) : Nat → List UInt8
  | 0 => l
  | i + 1 => if c / 2 ^ i % 2 = 1 then inv (long l k c i) ((k + i) / 8) ((k + i) % 8) else long l k c i
theorem short_length (l : List UInt8) (k c : Nat) : ∀ i, (short l k c i).length = l.length
  | 0 => rfl
  | i + 1 => by
    unfold short
    split
    · rw [inv_length, short_length l k c i]
    · exact short_length l k c i
theorem long_length (l : List UInt8) (k c : Nat) : ∀ i, (long l k c i).length = l.length
  | 0 => rfl
  | i + 1 => by
    unfold long
    split
    · rw [inv_length, long_length l k c i]
    · exact long_length l k c i
theorem short_bit (l : List UInt8) (k c : Nat) (q : Nat) (hq : q < k ∨ k + 16 ≤ q) : ∀ i, k + i ≤ 8 * l.length → hb (short l k c i) q = hb l q
  | 0, _ => rfl
  | i + 1, h => by
    unfold short
    split
    · rename_i g
      rw [hb_inv _ _ _ (by rw [short_length]; omega), decide_eq_false (by omega), Bool.bne_false, short_bit l k c q hq i (by omega)]
    · exact short_bit l k c q hq i (by omega)
theorem long_bit (l : List UInt8) (k c : Nat) (q : Nat) : ∀ i, k + i ≤ 8 * l.length → (q < k ∨ k + i ≤ q) → lb (long l k c i) q = lb l q
  | 0, _, _ => rfl
  | i + 1, h, hq => by
    unfold long
    split
    · rw [lb_inv _ _ _ (by rw [long_length]; omega), decide_eq_false (by omega), Bool.bne_false, long_bit l k c q i (by omega) (by omega)]
    · exact long_bit l k c q i (by omega) (by omega)
theorem window16 (a b : List UInt8) (h : a.length = b.length) (k m : Nat) (hm : m ≤ 16) (hk : k + m ≤ 8 * a.length) (g : ∀ q, q < 8 * a.length → (q < k ∨ k + m ≤ q) → hb a q = hb b q) (s : sum16 a = sum16 b) : a = b := by
  apply hb_ext a b h
  obtain ⟨c, hc⟩ : ∃ c, 8 * a.length = k + m + c := ⟨8 * a.length - (k + m), by omega⟩
  have e : bf L16 e16 0xffff#16 (hb a) (k + m + c) = bf L16 e16 0xffff#16 (hb b) (k + m + c) := by
    rw [← hc, bf_sum16, s, h, bf_sum16]
  rw [hc]
  exact burst reg16 _ _ _ k m c hm (fun j hj => g j (by omega) (by omega)) (fun j h1 h2 => g j (by omega) (by omega)) e
theorem window32 (a b : List UInt8) (h : a.length = b.length) (k m : Nat) (hm : m ≤ 32) (hk : k + m ≤ 8 * a.length) (g : ∀ q, q < 8 * a.length → (q < k ∨ k + m ≤ q) → lb a q = lb b q) (s : sum32 a = sum32 b) : a = b := by
  apply lb_ext a b h
  obtain ⟨c, hc⟩ : ∃ c, 8 * a.length = k + m + c := ⟨8 * a.length - (k + m), by omega⟩
  have e : bf L32 e32 (~~~ 0#32) (lb a) (k + m + c) = bf L32 e32 (~~~ 0#32) (lb b) (k + m + c) := by
    rw [← hc, bf_sum32, s, h, bf_sum32]
  rw [hc]
  exact burst reg32 _ _ _ k m c hm (fun j hj => g j (by omega) (by omega)) (fun j h1 h2 => g j (by omega) (by omega)) e
theorem short_sum (l : List UInt8) (k c i : Nat) (hi : k + i ≤ 8 * l.length) (hk : k ≤ 8 * l.length) (s : sum16 (short l k c i) = sum16 l) : short l k c i = l := by
  have hl := short_length l k c i
  refine window16 _ _ hl k (min 16 (8 * l.length - k)) (by omega) (by rw [hl]; omega) (fun q hq hw => ?_) s
  rw [hl] at hq
  exact short_bit l k c q (by omega) i hi
theorem long_sum (l : List UInt8) (k c i : Nat) (h32 : i ≤ 32) (hi : k + i ≤ 8 * l.length) (s : sum32 (long l k c i) = sum32 l) : long l k c i = l := by
  have hl := long_length l k c i
  refine window32 _ _ hl k i h32 (by rw [hl]; exact hi) (fun q hq hw => ?_) s
  exact long_bit l k c q i hi hw
end Crc
end Go.Proofs.Ytkgnhdggfeiheaa
