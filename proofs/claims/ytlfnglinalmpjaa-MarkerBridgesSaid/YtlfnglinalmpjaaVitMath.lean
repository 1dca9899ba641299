/- The decoder of greatest likelihood: sums of messages, the best way to each state, what inverted symbols change: plain mathematics. -/
import Derived.Test.YtlfnglinalmpjaaCvBits
namespace Go.Proofs.Ytlfnglinalmpjaa
set_option linter.unusedVariables false
namespace Vit
open Cv
/-- What a step adds to a sum. -/
def cst (f : Nat → Int) (i s x : Nat) : Int := (s1 s x : Nat) * f (2 * i) + (s2 s x : Nat) * f (2 * i + 1)
/-- The sum of the first k steps of the bits g. -/
def tot (f : Nat → Int) (g : Nat → Nat) : Nat → Int
  | 0 => 0
  | k + 1 => tot f g k + cst f k (stt g k) (g k)
theorem tot_congr {f : Nat → Int} {g h : Nat → Nat} : ∀ k, (∀ i, i < k → g i = h i) → tot f g k = tot f h k
  | 0, _ => rfl
  | k + 1, e => by
    show tot f g k + cst f k (stt g k) (g k) = tot f h k + cst f k (stt h k) (h k)
    rw [tot_congr k (fun i hi => e i (by omega)), stt_congr k (fun i hi => e i (by omega)), e k (by omega)]
/-- The first k bits as a number. -/
def vl (g : Nat → Nat) : Nat → Nat
  | 0 => 0
  | k + 1 => 2 * vl g k + g k
theorem vl_congr {g h : Nat → Nat} : ∀ k, (∀ i, i < k → g i = h i) → vl g k = vl h k
  | 0, _ => rfl
  | k + 1, e => by
    show 2 * vl g k + g k = 2 * vl h k + h k
    rw [vl_congr k (fun i hi => e i (by omega)), e k (by omega)]
theorem vl_inj {g h : Nat → Nat} (hg : ∀ i, g i < 2) (hh : ∀ i, h i < 2) : ∀ k, vl g k = vl h k → ∀ i, i < k → g i = h i
  | 0, _, i, hi => absurd hi (Nat.not_lt_zero i)
  | k + 1, e, i, hi => by
    have e' : 2 * vl g k + g k = 2 * vl h k + h k := e
    have a := hg k
    have b := hh k
    by_cases q : i = k
    · subst q; omega
    · exact vl_inj hg hh k (by omega) i (by omega)
def fin (b : List Bit) : Nat := stt (gl b) b.length
def ws (f : Nat → Int) (b : List Bit) : Int := tot f (gl b) b.length
def val (b : List Bit) : Nat := vl (gl b) b.length
theorem fin_lt (b : List Bit) : fin b < 64 := stt_lt (gl_lt b) _
theorem fin_snoc (b : List Bit) (x : Bit) : fin (b ++ [x]) = nx (fin b) x.1 := by
  unfold fin
  rw [List.length_append, List.length_singleton]
  show nx (stt _ b.length) (gl _ b.length) = _
  rw [gl_new, stt_congr _ (fun i hi => gl_old b x i hi)]
theorem ws_snoc (f : Nat → Int) (b : List Bit) (x : Bit) : ws f (b ++ [x]) = ws f b + cst f b.length (fin b) x.1 := by
  unfold ws fin
  rw [List.length_append, List.length_singleton]
  show tot f _ b.length + cst f _ (stt _ b.length) (gl _ b.length) = _
  rw [gl_new, stt_congr _ (fun i hi => gl_old b x i hi), tot_congr _ (fun i hi => gl_old b x i hi)]
theorem val_snoc (b : List Bit) (x : Bit) : val (b ++ [x]) = 2 * val b + x.1 := by
  unfold val
  rw [List.length_append, List.length_singleton]
  show 2 * vl _ b.length + gl _ b.length = _
  rw [gl_new, vl_congr _ (fun i hi => gl_old b x i hi)]
/-- The ways of i bits to the state t, whose bits from m on are 0. -/
def Pth (m i t : Nat) (b : List Bit) : Prop := b.length = i ∧ fin b = t ∧ ∀ j, m ≤ j → j < i → gl b j = 0
/-- Those whose last step is one of the first q steps from the states in order. -/
def Prt (m i q t : Nat) (b : List Bit) : Prop := ∃ (b0 : List Bit) (x : Bit), b = b0 ++ [x] ∧ b0.length = i ∧ (∀ j, m ≤ j → j < i → gl b0 j = 0) ∧ 2 * fin b0 + x.1 < q ∧ nx (fin b0) x.1 = t ∧ (m ≤ i → x.1 = 0)
/-- At least as good. -/
def Better (f : Nat → Int) (b c : List Bit) : Prop := ws f c < ws f b ∨ (ws f c = ws f b ∧ val b ≤ val c)
theorem Better.refl (f : Nat → Int) (b : List Bit) : Better f b b := .inr ⟨rfl, Nat.le_refl _⟩
theorem Better.trans {f : Nat → Int} {a b c : List Bit} (h : Better f a b) (k : Better f b c) : Better f a c := by
  unfold Better at *
  omega
/-- The best of a set, if there is one. -/
def Best (f : Nat → Int) (S : List Bit → Prop) : Option (List Bit) → Prop
  | none => ∀ b, ¬ S b
  | some b => S b ∧ ∀ c, S c → Better f b c
theorem Best.congr {f : Nat → Int} {S T : List Bit → Prop} {e : Option (List Bit)} (h : Best f S e) (q : ∀ b, S b ↔ T b) : Best f T e := by
  cases e with
  | none => exact fun b hb => h b ((q b).2 hb)
  | some b => exact ⟨(q b).1 h.1, fun c hc => h.2 c ((q c).2 hc)⟩
theorem prt_zero (m i t : Nat) (b : List Bit) : ¬ Prt m i 0 t b := fun ⟨_, _, _, _, _, h, _⟩ => Nat.not_lt_zero _ h
theorem snoc_last (b : List Bit) {i : Nat} (h : b.length = i + 1) : ∃ b0 x, b = b0 ++ [x] ∧ b0.length = i := by
  refine ⟨b.dropLast, b.getLast (by intro e; rw [e] at h; simp at h), (List.dropLast_concat_getLast _).symm, ?_⟩
  rw [List.length_dropLast, h]
  rfl
theorem prt_all (m i t : Nat) (b : List Bit) : Prt m i 128 t b ↔ Pth m (i + 1) t b := by
  constructor
  · rintro ⟨b0, x, rfl, hl, ht, _, hn, hx⟩
    refine ⟨by simp [hl], by rw [fin_snoc]; exact hn, fun j h1 h2 => ?_⟩
    by_cases e : j < i
    · rw [gl_old _ _ _ (by omega)]
      exact ht j h1 e
    · obtain rfl : j = i := by omega
      rw [← hl, gl_new]
      exact hx h1
  · rintro ⟨hl, hf, ht⟩
    obtain ⟨b0, x, rfl, hl0⟩ := snoc_last b hl
    refine ⟨b0, x, rfl, hl0, fun j h1 h2 => ?_, ?_, by rw [← fin_snoc]; exact hf, fun h => ?_⟩
    · have := ht j h1 (by omega)
      rwa [gl_old _ _ _ (by omega)] at this
    · have := fin_lt b0
      have := x.2
      omega
    · have := ht i h (by omega)
      rwa [← hl0, gl_new] at this
theorem prt_succ {m i q t : Nat} {b : List Bit} (h : Prt m i (q + 1) t b) : Prt m i q t b ∨ ∃ (b0 : List Bit) (x : Bit), b = b0 ++ [x] ∧ Pth m i (q / 2) b0 ∧ x.1 = q % 2 ∧ nx (q / 2) (q % 2) = t ∧ (m ≤ i → q % 2 = 0) := by
  obtain ⟨b0, x, e, hl, ht, hq, hn, hx⟩ := h
  by_cases g : 2 * fin b0 + x.1 < q
  · exact .inl ⟨b0, x, e, hl, ht, g, hn, hx⟩
  · have x2 := x.2
    have e1 : fin b0 = q / 2 := by omega
    have e2 : x.1 = q % 2 := by omega
    rw [e1, e2] at hn
    rw [e2] at hx
    exact .inr ⟨b0, x, e, ⟨hl, e1, ht⟩, e2, hn, hx⟩
theorem prt_mono {m i q r t : Nat} {b : List Bit} (h : Prt m i q t b) (hr : q ≤ r) : Prt m i r t b := by
  obtain ⟨b0, x, e, hl, ht, hq, hn, hx⟩ := h
  exact ⟨b0, x, e, hl, ht, by omega, hn, hx⟩
/-- A step that adds no way. -/
theorem best_same {f : Nat → Int} {m i q t : Nat} {e : Option (List Bit)} (h : Best f (Prt m i q t) e)
    (hno : (∀ b, ¬ Pth m i (q / 2) b) ∨ (m ≤ i ∧ q % 2 = 1) ∨ nx (q / 2) (q % 2) ≠ t) : Best f (Prt m i (q + 1) t) e :=
  h.congr fun b => ⟨fun hb => prt_mono hb (Nat.le_succ q), fun hb => by
    rcases prt_succ hb with hb | ⟨b0, x, _, hp, hx, hn, hm⟩
    · exact hb
    · rcases hno with g | ⟨g1, g2⟩ | g
      · exact absurd hp (g b0)
      · have := hm g1
        omega
      · exact absurd hn g⟩
/-- A step that adds ways. -/
theorem best_new {f : Nat → Int} {m i q t : Nat} {e : Option (List Bit)} {b0 : List Bit} {x : Bit} (h : Best f (Prt m i q t) e) (hb : Best f (Pth m i (q / 2)) (some b0)) (hx : x.1 = q % 2) (hm : m ≤ i → q % 2 = 0) (hn : nx (q / 2) (q % 2) = t) :
    (∀ c, e = some c → ¬ (ws f c < ws f (b0 ++ [x]) ∨ (ws f (b0 ++ [x]) = ws f c ∧ val (b0 ++ [x]) < val c)) → Best f (Prt m i (q + 1) t) e) ∧
    ((e = none ∨ ∃ c, e = some c ∧ (ws f c < ws f (b0 ++ [x]) ∨ (ws f (b0 ++ [x]) = ws f c ∧ val (b0 ++ [x]) < val c))) → Best f (Prt m i (q + 1) t) (some (b0 ++ [x]))) := by
  obtain ⟨⟨hl, hf, ht⟩, hmax⟩ := hb
  have mem : Prt m i (q + 1) t (b0 ++ [x]) := ⟨b0, x, rfl, hl, ht, by rw [hf, hx]; omega, by rw [hf, hx]; exact hn, fun g => by rw [hx]; exact hm g⟩
  have new : ∀ b, Prt m i (q + 1) t b → Prt m i q t b ∨ Better f (b0 ++ [x]) b := fun b hb => by
    rcases prt_succ hb with hb | ⟨b1, y, rfl, hp, hy, _, _⟩
    · exact .inl hb
    · right
      have k := hmax b1 hp
      unfold Better at k ⊢
      rw [ws_snoc, ws_snoc, val_snoc, val_snoc, hl, hp.1, hf, hp.2.1, hx, hy]
      omega
  constructor
  · intro c hc hno
    subst hc
    refine ⟨prt_mono h.1 (Nat.le_succ q), fun b hb => ?_⟩
    rcases new b hb with hb | hb
    · exact h.2 b hb
    · refine Better.trans ?_ hb
      unfold Better
      omega
  · intro hc
    refine ⟨mem, fun b hb => ?_⟩
    rcases new b hb with hb | hb
    · rcases hc with rfl | ⟨c, rfl, hc⟩
      · exact absurd hb (h b)
      · refine Better.trans ?_ (h.2 b hb)
        unfold Better
        omega
    · exact hb
theorem best_start (f : Nat → Int) (m t : Nat) : Best f (Pth m 0 t) (if t = 0 then some [] else none) := by
  by_cases e : t = 0
  · rw [if_pos e]
    refine ⟨⟨rfl, e.symm, fun j _ h => absurd h (Nat.not_lt_zero j)⟩, fun c hc => ?_⟩
    have : c = [] := List.length_eq_zero_iff.1 hc.1
    subst this
    exact Better.refl _ _
  · rw [if_neg e]
    rintro b ⟨hl, hf, _⟩
    have : b = [] := List.length_eq_zero_iff.1 hl
    subst this
    exact e hf.symm
/-- The sum of a message of n bytes d. -/
def msum (f : Nat → Int) (n : Nat) (d : Nat → BitVec 8) : Int := tot f (mb d n) (8 * n + 6)
/-- n bytes as a number. -/
def num (d : Nat → BitVec 8) : Nat → Nat
  | 0 => 0
  | k + 1 => 256 * num d k + (d k).toNat
theorem byte_bits (x : BitVec 8) : 128 * bit x 0 + 64 * bit x 1 + 32 * bit x 2 + 16 * bit x 3 + 8 * bit x 4 + 4 * bit x 5 + 2 * bit x 6 + bit x 7 = x.toNat := by
  have h := x.isLt
  unfold bit
  simp only [show 2 ^ (7 - 0) = 128 by decide, show 2 ^ (7 - 1) = 64 by decide, show 2 ^ (7 - 2) = 32 by decide, show 2 ^ (7 - 3) = 16 by decide, show 2 ^ (7 - 4) = 8 by decide, show 2 ^ (7 - 5) = 4 by decide, show 2 ^ (7 - 6) = 2 by decide, show 2 ^ (7 - 7) = 1 by decide]
  omega
theorem mb_bit (d : Nat → BitVec 8) (n p k : Nat) (hp : p < n) (hk : k < 8) : mb d n (8 * p + k) = bit (d p) k := by
  unfold mb
  rw [if_pos (by omega), show (8 * p + k) / 8 = p by omega, show (8 * p + k) % 8 = k by omega]
theorem vl_eight (g : Nat → Nat) (a : Nat) : vl g (a + 8) = 256 * vl g a + (128 * g a + 64 * g (a + 1) + 32 * g (a + 2) + 16 * g (a + 3) + 8 * g (a + 4) + 4 * g (a + 5) + 2 * g (a + 6) + g (a + 7)) := by
  show 2 * (2 * (2 * (2 * (2 * (2 * (2 * (2 * vl g a + g a) + g (a + 1)) + g (a + 2)) + g (a + 3)) + g (a + 4)) + g (a + 5)) + g (a + 6)) + g (a + 7) = _
  omega
theorem vl_num (d : Nat → BitVec 8) (n : Nat) : ∀ p, p ≤ n → vl (mb d n) (8 * p) = num d p
  | 0, _ => rfl
  | p + 1, h => by
    rw [show 8 * (p + 1) = 8 * p + 8 by omega, vl_eight, vl_num d n p (by omega)]
    have e : ∀ k, k < 8 → mb d n (8 * p + k) = bit (d p) k := fun k hk => mb_bit d n p k (by omega) hk
    have e0 := e 0 (by omega)
    rw [Nat.add_zero] at e0
    rw [e0, e 1 (by omega), e 2 (by omega), e 3 (by omega), e 4 (by omega), e 5 (by omega), e 6 (by omega), e 7 (by omega), byte_bits]
    rfl
theorem vl_tail {g : Nat → Nat} {a : Nat} : ∀ k, (∀ i, a ≤ i → i < a + k → g i = 0) → vl g (a + k) = 2 ^ k * vl g a
  | 0, _ => by simp
  | k + 1, h => by
    show 2 * vl g (a + k) + g (a + k) = _
    rw [h (a + k) (by omega) (by omega), vl_tail k (fun i h1 h2 => h i h1 (by omega)), Nat.pow_succ, Nat.add_zero, Nat.mul_comm (2 ^ k) 2, Nat.mul_assoc]
theorem num_inj {d c : Nat → BitVec 8} : ∀ n, num d n = num c n → ∀ p, p < n → d p = c p
  | 0, _, p, h => absurd h (Nat.not_lt_zero p)
  | n + 1, e, p, h => by
    have e' : 256 * num d n + (d n).toNat = 256 * num c n + (c n).toNat := e
    have a := (d n).isLt
    have b := (c n).isLt
    by_cases q : p = n
    · subst q
      exact BitVec.eq_of_toNat_eq (by omega)
    · exact num_inj n (by omega) p (by omega)
/-- A message is the best one: of all others the sum is less, or the same and they are not less. -/
def Top (f : Nat → Int) (n : Nat) (d : Nat → BitVec 8) : Prop := ∀ c : Nat → BitVec 8, msum f n c < msum f n d ∨ (msum f n c = msum f n d ∧ num d n ≤ num c n)
theorem top_unique {f : Nat → Int} {n : Nat} {d c : Nat → BitVec 8} (hd : Top f n d) (hc : Top f n c) : (∀ p, p < n → d p = c p) ∧ msum f n d = msum f n c := by
  have h1 := hd c
  have h2 := hc d
  exact ⟨num_inj n (by omega), by omega⟩
theorem mb_tail0 (d : Nat → BitVec 8) (n i : Nat) (h : 8 * n ≤ i) : mb d n i = 0 := by
  unfold mb
  rw [if_neg (by omega)]
/-- The bits of a message as a way. -/
def bitsOf (d : Nat → BitVec 8) (n : Nat) : List Bit := upto (fun i => ⟨mb d n i, mb_lt _ _ _⟩) (8 * n + 6)
theorem bits_gl (d : Nat → BitVec 8) (n i : Nat) (h : i < 8 * n + 6) : gl (bitsOf d n) i = mb d n i := gl_upto _ _ _ h
theorem bits_len (d : Nat → BitVec 8) (n : Nat) : (bitsOf d n).length = 8 * n + 6 := upto_length _ _
theorem bits_ws (f : Nat → Int) (d : Nat → BitVec 8) (n : Nat) : ws f (bitsOf d n) = msum f n d := by
  unfold ws msum
  rw [bits_len]
  exact tot_congr _ (fun i hi => bits_gl d n i hi)
theorem bits_pth (d : Nat → BitVec 8) (n : Nat) : Pth (8 * n) (8 * n + 6) 0 (bitsOf d n) := by
  refine ⟨bits_len d n, ?_, fun j h1 h2 => by rw [bits_gl d n j h2, mb_tail0 d n j h1]⟩
  unfold fin
  rw [bits_len, stt_congr _ (fun i hi => bits_gl d n i hi)]
  exact stt_end (fun i => mb_lt d n i) (8 * n) (fun i hi => mb_tail0 d n i hi)
theorem bits_val (d : Nat → BitVec 8) (n : Nat) : val (bitsOf d n) = 64 * num d n := by
  unfold val
  rw [bits_len, vl_congr _ (fun i hi => bits_gl d n i hi), vl_tail 6 (fun i h1 _ => mb_tail0 d n i h1), vl_num d n n (Nat.le_refl _)]
/-- A way whose bits are a message's. -/
theorem best_top {f : Nat → Int} {n : Nat} {b : List Bit} (h : Best f (Pth (8 * n) (8 * n + 6) 0) (some b)) (d : Nat → BitVec 8) (hd : ∀ i, i < 8 * n → mb d n i = gl b i) : Top f n d ∧ ws f b = msum f n d := by
  obtain ⟨⟨hl, hf, ht⟩, hmax⟩ := h
  have e : ∀ i, i < 8 * n + 6 → gl b i = gl (bitsOf d n) i := fun i hi => by
    rw [bits_gl d n i hi]
    by_cases q : i < 8 * n
    · exact (hd i q).symm
    · rw [ht i (by omega) hi, mb_tail0 d n i (by omega)]
  have ew : ws f b = msum f n d := by
    rw [← bits_ws]
    unfold ws
    rw [hl, bits_len]
    exact tot_congr _ e
  have ev : val b = 64 * num d n := by
    rw [← bits_val]
    unfold val
    rw [hl, bits_len]
    exact vl_congr _ e
  refine ⟨fun c => ?_, ew⟩
  have k := hmax _ (bits_pth c n)
  unfold Better at k
  rw [bits_ws, bits_val, ew, ev] at k
  omega
theorem best_some {f : Nat → Int} {n : Nat} {e : Option (List Bit)} (h : Best f (Pth (8 * n) (8 * n + 6) 0) e) : ∃ b, e = some b := by
  cases e with
  | none => exact absurd (bits_pth (fun _ => 0#8) n) (h _)
  | some b => exact ⟨b, rfl⟩
/-- Sums over places. -/
def sg (F : Nat → Int) : Nat → Int
  | 0 => 0
  | k + 1 => sg F k + F k
theorem sg_congr {F G : Nat → Int} : ∀ k, (∀ i, i < k → F i = G i) → sg F k = sg G k
  | 0, _ => rfl
  | k + 1, h => by
    show sg F k + F k = sg G k + G k
    rw [sg_congr k (fun i hi => h i (by omega)), h k (by omega)]
theorem tot_sg (f : Nat → Int) (g : Nat → Nat) : ∀ k, tot f g k = sg (fun i => (sym g i : Nat) * f i) (2 * k)
  | 0 => rfl
  | k + 1 => by
    show tot f g k + cst f k (stt g k) (g k) = sg _ (2 * k) + (sym g (2 * k) : Nat) * f (2 * k) + (sym g (2 * k + 1) : Nat) * f (2 * k + 1)
    rw [tot_sg f g k, sym_even, sym_odd]
    unfold cst
    omega
/-- How many of the first k places are in a set. -/
def cnt (p : Nat → Bool) : Nat → Nat
  | 0 => 0
  | k + 1 => cnt p k + (if p k then 1 else 0)
theorem dff_cnt (g h : Nat → Nat) : ∀ k, dff g h k = cnt (fun i => decide (sym g i ≠ sym h i)) k
  | 0 => rfl
  | k + 1 => by
    rw [dff_succ, dff_cnt g h k]
    show _ = cnt _ k + _
    congr 1
    by_cases e : sym g k = sym h k <;> simp [e]
/-- The values of the symbols v, which differ from those of g in the places e. -/
theorem far_sum {f : Nat → Int} {g h : Nat → Nat} {v : Nat → Nat} (hf : ∀ i, f i = 14 * (v i : Int) - 7) (hv : ∀ i, v i < 2) : ∀ k, sg (fun i => (sym g i : Nat) * f i) k - sg (fun i => (sym h i : Nat) * f i) k ≥ 7 * (cnt (fun i => decide (sym g i ≠ sym h i)) k : Int) - 14 * (cnt (fun i => decide (v i ≠ sym g i)) k : Int)
  | 0 => by
    show (0 : Int) - 0 ≥ 7 * ((0 : Nat) : Int) - 14 * ((0 : Nat) : Int)
    decide
  | k + 1 => by
    have ih := far_sum (g := g) (h := h) hf hv k
    rw [show sg (fun i => (sym g i : Nat) * f i) (k + 1) = sg (fun i => (sym g i : Nat) * f i) k + (sym g k : Nat) * f k from rfl, show sg (fun i => (sym h i : Nat) * f i) (k + 1) = sg (fun i => (sym h i : Nat) * f i) k + (sym h k : Nat) * f k from rfl,
      show cnt (fun i => decide (sym g i ≠ sym h i)) (k + 1) = cnt (fun i => decide (sym g i ≠ sym h i)) k + (if decide (sym g k ≠ sym h k) then 1 else 0) from rfl, show cnt (fun i => decide (v i ≠ sym g i)) (k + 1) = cnt (fun i => decide (v i ≠ sym g i)) k + (if decide (v k ≠ sym g k) then 1 else 0) from rfl]
    have a := sym_lt g k
    have b := sym_lt h k
    have c := hv k
    have fk := hf k
    generalize sg (fun i => (sym g i : Nat) * f i) k = X at *
    generalize sg (fun i => (sym h i : Nat) * f i) k = Y at *
    generalize cnt (fun i => decide (sym g i ≠ sym h i)) k = D at *
    generalize cnt (fun i => decide (v i ≠ sym g i)) k = E at *
    generalize sym g k = p at *
    generalize sym h k = q at *
    generalize v k = r at *
    rw [fk]
    match p, a, q, b, r, c with
    | 0, _, 0, _, 0, _ => simp; omega
    | 0, _, 0, _, 1, _ => simp; omega
    | 0, _, 1, _, 0, _ => simp; omega
    | 0, _, 1, _, 1, _ => simp; omega
    | 1, _, 0, _, 0, _ => simp; omega
    | 1, _, 0, _, 1, _ => simp; omega
    | 1, _, 1, _, 0, _ => simp; omega
    | 1, _, 1, _, 1, _ => simp; omega
/-- P7.4: with at most four inverted symbols, no other message has a sum as great. -/
theorem corrects {f : Nat → Int} {n : Nat} {d : Nat → BitVec 8} {v : Nat → Nat} (hf : ∀ i, f i = 14 * (v i : Int) - 7) (hv : ∀ i, v i < 2) (he : cnt (fun i => decide (v i ≠ sym (mb d n) i)) (2 * (8 * n + 6)) ≤ 4) : Top f n d := by
  intro c
  by_cases q : ∃ p, p < n ∧ d p ≠ c p
  · left
    have D := dist q
    rw [dff_cnt] at D
    have F := far_sum (g := mb d n) (h := mb c n) hf hv (2 * (8 * n + 6))
    unfold msum
    rw [tot_sg, tot_sg]
    omega
  · right
    have e : ∀ p, p < n → d p = c p := fun p hp => Classical.byContradiction fun h => q ⟨p, hp, h⟩
    have em : ∀ i, i < 8 * n + 6 → mb d n i = mb c n i := fun i hi => by
      unfold mb
      by_cases g : i < 8 * n
      · rw [if_pos g, if_pos g, e _ (by omega)]
      · rw [if_neg g, if_neg g]
    refine ⟨(tot_congr _ em).symm, ?_⟩
    have : ∀ k, k ≤ n → num d k = num c k := by
      intro k
      induction k with
      | zero => intro _; rfl
      | succ k ih =>
        intro hk
        show 256 * num d k + _ = 256 * num c k + _
        rw [ih (by omega), e k (by omega)]
    exact Nat.le_of_eq (this n (Nat.le_refl _))
/-- Doubled values: doubled sums. -/
theorem tot_double {f f2 : Nat → Int} (h : ∀ i, f2 i = 2 * f i) (g : Nat → Nat) : ∀ k, tot f2 g k = 2 * tot f g k
  | 0 => rfl
  | k + 1 => by
    show tot f2 g k + cst f2 k _ _ = 2 * (tot f g k + cst f k _ _)
    rw [tot_double h g k]
    unfold cst
    rw [h, h]
    have e : ∀ (a b : Int), a * (2 * b) = 2 * (a * b) := fun a b => by rw [← Int.mul_assoc, Int.mul_comm a 2, Int.mul_assoc]
    rw [e, e]
    omega
theorem top_double {f f2 : Nat → Int} (h : ∀ i, f2 i = 2 * f i) {n : Nat} {d : Nat → BitVec 8} (hd : Top f n d) : Top f2 n d ∧ msum f2 n d = 2 * msum f n d := by
  have e : ∀ c, msum f2 n c = 2 * msum f n c := fun c => tot_double h _ _
  refine ⟨fun c => ?_, e d⟩
  rw [e, e]
  have := hd c
  omega
theorem tot_values {f f2 : Nat → Int} (g : Nat → Nat) : ∀ k, (∀ i, i < 2 * k → f i = f2 i) → tot f g k = tot f2 g k
  | 0, _ => rfl
  | k + 1, h => by
    show tot f g k + cst f k _ _ = tot f2 g k + cst f2 k _ _
    rw [tot_values g k (fun i hi => h i (by omega))]
    unfold cst
    rw [h (2 * k) (by omega), h (2 * k + 1) (by omega)]
end Vit
end Go.Proofs.Ytlfnglinalmpjaa
