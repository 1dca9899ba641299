/- FieldsKeeps: of every string of at most 5000 bytes, every place and every number: what the program's Put writes, its Get reads; the bits outside stay; two fields without a common bit can be put in any order. No condition. -/
import Derived.Test.YtgfjmolihobaeaaFldChg
import Derived.Test.YtgfjmolihobaeaaFldBits
namespace Go.Proofs.Ytgfjmolihobaeaa
open Go.ChangeShapes Go.WideShapes Go.ChangeAt Go.RowKit
set_option linter.unusedVariables false

namespace Fld
theorem num_bits (l : List UInt8) (p w v : Nat) (hv : v < 2 ^ w) (h : ∀ j, j < w → bit l (p + j) = v / 2 ^ (w - 1 - j) % 2) : ∀ k, k ≤ w → num l p k = v / 2 ^ (w - k)
  | 0, _ => by
    unfold num
    rw [Nat.sub_zero]
    exact (Nat.div_eq_of_lt hv).symm
  | k + 1, hk => by
    unfold num
    rw [num_bits l p w v hv h k (by omega), h k (by omega), show w - k = (w - 1 - k) + 1 by omega, show w - (k + 1) = w - 1 - k by omega, Nat.pow_succ, ← Nat.div_div_eq_div_mul]
    omega
theorem num_put (l : List UInt8) (p w v : Nat) (h : p + w ≤ 8 * l.length) (hv : v < 2 ^ w) : num (put l p w v w) p w = v := by
  rw [num_bits (put l p w v w) p w v hv (fun j hj => by rw [bit_put l p w v h w (Nat.le_refl _), if_pos (by omega), show p + j - p = j by omega]) w (Nat.le_refl _)]
  simp
theorem put_comm (l : List UInt8) (p w v q x u : Nat) (h : p + w ≤ 8 * l.length) (k : q + x ≤ 8 * l.length) (d : q + x ≤ p ∨ p + w ≤ q) : put (put l p w v w) q x u x = put (put l q x u x) p w v w := by
  apply ext_bits
  · simp only [put_length]
  · intro i _
    rw [bit_put _ q x u (by rw [put_length]; exact k) x (Nat.le_refl _), bit_put l p w v h w (Nat.le_refl _), bit_put _ p w v (by rw [put_length]; exact h) w (Nat.le_refl _), bit_put l q x u k x (Nat.le_refl _)]
    by_cases a : q ≤ i ∧ i < q + x
    · rw [if_pos a, if_neg (by omega), if_pos a]
    · rw [if_neg a]
      by_cases b : p ≤ i ∧ i < p + w
      · rw [if_pos b, if_pos b]
      · rw [if_neg b, if_neg b, if_neg a]
theorem chkP_cases {n : Nat} {p wd : Int} {v : Nat} (h : chkP n p wd v = 0) : ok n p wd ∧ ¬ 65536 < n ∧ v < 2 ^ wd.toNat := by
  unfold chkP at h
  split at h
  · obtain ⟨a, b⟩ := chk_cases ‹_›
    split at h
    · exact ⟨a, b, by have : fitsB v wd.toNat = true := ‹_›; unfold fitsB at this; exact of_decide_eq_true this⟩
    · cases h
  · exact absurd h ‹_›
theorem putV_ok {l : List UInt8} {n : Nat} {p wd : Int} {v : Nat} (hl : l.length = n) (h : chkP n p wd v = 0) : putV l p wd v = put l p.toNat wd.toNat v wd.toNat := by unfold putV; rw [hl, if_pos h]
theorem getV_ok {l : List UInt8} {n : Nat} {p wd : Int} (hl : l.length = n) (h : chk n p wd = 0) : getV l p wd = num l p.toNat wd.toNat := by unfold getV; rw [hl, if_pos h]
end Fld
namespace fieldsKeeps

set_option maxRecDepth 100000 in
set_option maxHeartbeats 8000000 in
theorem walk_long (s t : ByteArray) (p wd p2 wd2 v v2 : Int) (hs : s.size ≤ maxLen) (h : 5000 < s.size) (w : World) :
    Calls Try.prog 6 #[.agg #[.string s, .int .i64 p, .int .i64 wd, .int .u64 v], .agg #[.string t, .int .i64 p2, .int .i64 wd2, .int .u64 v2]] w fun e w' => e = .returned (.bool true) ∧ Below w.heap.size w w' := by
  unfold maxLen at hs
  have AW := Lib.hid (fun w => awake_any w)
  have H0 := Lib.hid (((Below.refl w.heap.size w).alloc (Nat.le_refl _) (.cells #[.string s, .int .i64 p, .int .i64 wd, .int .u64 v] 31)).alloc (by simp) (.cells #[.string t, .int .i64 p2, .int .i64 wd2, .int .u64 v2] 31))
  go_enter Try.func6, Try.ntmps6
  go_wp2_with fail
  (with_reducible refine (AW.out _).mono ?_)
  rintro e w9 ⟨rfl, h9⟩
  have H9 := Lib.hid (bt H0.out h9)
  clear h9
  go_wp2_with fail
  go_ret
  exact ⟨rfl, H9.out⟩

set_option maxRecDepth 100000 in
set_option maxHeartbeats 8000000 in
theorem walk_bad (s t : ByteArray) (p wd p2 wd2 : Int) (v v2 : Nat) (hs : s.size ≤ 5000) (hv : v < 18446744073709551616) (hv2 : v2 < 18446744073709551616) (h : ¬ Fld.chkP s.size p wd v = 0) (w : World) :
    Calls Try.prog 6 #[.agg #[.string s, .int .i64 p, .int .i64 wd, .int .u64 v], .agg #[.string t, .int .i64 p2, .int .i64 wd2, .int .u64 v2]] w fun e w' => e = .returned (.bool true) ∧ Below w.heap.size w w' := by
  have AW := Lib.hid (fun w => awake_any w)
  have H0 := Lib.hid (((Below.refl w.heap.size w).alloc (Nat.le_refl _) (.cells #[.string s, .int .i64 p, .int .i64 wd, .int .u64 (v : Int)] 31)).alloc (by simp) (.cells #[.string t, .int .i64 p2, .int .i64 wd2, .int .u64 (v2 : Int)] 31))
  have X0 := Lib.hid ((Chg.new w s p wd v 31).below ((Below.refl _ _).alloc (Nat.le_refl _) (.cells #[.string t, .int .i64 p2, .int .i64 wd2, .int .u64 (v2 : Int)] 31)))
  have Y0 := Lib.hid (Chg.new (w.alloc (.cells #[.string s, .int .i64 p, .int .i64 wd, .int .u64 (v : Int)] 31)) t p2 wd2 v2 31)
  have P := Lib.hid (fun w => put_any s p wd v (by omega) hv w)
  have e0 : Fld.putV s.data.toList p wd v = [] := by unfold Fld.putV; rw [show s.data.toList.length = s.size by simp, if_neg h]
  rw [e0, empty_str] at P
  obtain ⟨c, hc⟩ : ∃ c, Fld.chkP s.size p wd v = c := ⟨_, rfl⟩
  rw [hc] at P h
  have z1 : (c == 0) = false := by simpa using h
  have z2 : (c != 0) = true := by simpa using h
  clear h hc e0
  go_enter Try.func6, Try.ntmps6
  go_wp2_with fail
  (with_reducible refine (P.out _).mono ?_)
  rintro e w1 ⟨rfl, h1⟩
  have H1 := Lib.hid (bt H0.out h1)
  have X1 := Lib.hid (X0.out.below h1)
  have Y1 := Lib.hid (Y0.out.below h1)
  obtain ⟨⟨c0, c1⟩, c2, c3, c4⟩ := X1.out
  obtain ⟨⟨d0, d1⟩, d2, d3, d4⟩ := Y1.out
  clear h1 H0
  go_wp2_with fail
  (with_reducible refine (AW.out _).mono ?_)
  rintro e w9 ⟨rfl, h9⟩
  have H9 := Lib.hid (bt H1.out h9)
  clear h9
  go_wp2_with fail
  go_ret
  exact ⟨rfl, H9.out⟩

set_option maxRecDepth 100000 in
set_option maxHeartbeats 16000000 in
theorem walk_ok (s t : ByteArray) (a b : Nat) (p2 wd2 : Int) (v v2 : Nat) (hs : s.size ≤ 5000) (hv2 : v2 < 18446744073709551616) (h1 : 1 ≤ b) (h2 : b ≤ 64) (h3 : a + b ≤ 8 * s.size) (h4 : v < 2 ^ b) (w : World) :
    Calls Try.prog 6 #[.agg #[.string s, .int .i64 a, .int .i64 b, .int .u64 v], .agg #[.string t, .int .i64 p2, .int .i64 wd2, .int .u64 v2]] w fun e w' => e = .returned (.bool true) ∧ Below w.heap.size w w' := by
  have hv : v < 18446744073709551616 := Nat.lt_of_lt_of_le h4 (Fld.pow_le_64 h2)
  have AW := Lib.hid (fun w => awake_any w)
  have H0 := Lib.hid (((Below.refl w.heap.size w).alloc (Nat.le_refl _) (.cells #[.string s, .int .i64 (a : Int), .int .i64 (b : Int), .int .u64 (v : Int)] 31)).alloc (by simp) (.cells #[.string t, .int .i64 p2, .int .i64 wd2, .int .u64 (v2 : Int)] 31))
  have X0 := Lib.hid ((Chg.new w s a b v 31).below ((Below.refl _ _).alloc (Nat.le_refl _) (.cells #[.string t, .int .i64 p2, .int .i64 wd2, .int .u64 (v2 : Int)] 31)))
  have Y0 := Lib.hid (Chg.new (w.alloc (.cells #[.string s, .int .i64 (a : Int), .int .i64 (b : Int), .int .u64 (v : Int)] 31)) t p2 wd2 v2 31)
  have ls : s.data.toList.length = s.size := by simp
  have ck : Fld.chk s.size a b = 0 := Fld.chk_ok (by omega) ⟨⟨by omega, by omega⟩, by omega, by omega⟩
  have cp : Fld.chkP s.size a b v = 0 := by unfold Fld.chkP; rw [if_pos ck, Int.toNat_natCast, if_pos (show Fld.fitsB v b = true from decide_eq_true h4)]
  have P := Lib.hid (fun w => put_any s a b v (by omega) hv w)
  rw [Fld.putV_ok ls cp, cp] at P
  simp only [Int.toNat_natCast] at P
  have pl := Fld.put_length s.data.toList a b v b
  obtain ⟨c, hc⟩ : ∃ c : ByteArray, (⟨(Fld.put s.data.toList a b v b).toArray⟩ : ByteArray) = c := ⟨_, rfl⟩
  have cl : c.data.toList = Fld.put s.data.toList a b v b := by rw [← hc]
  have cs : c.size = s.size := by rw [← ls, ← pl, ← cl]; simp
  rw [hc] at P
  have lc : c.data.toList.length = s.size := by rw [cl, pl, ls]
  have G := Lib.hid (fun w => get_any c a b (by omega) w)
  rw [cs, Fld.getV_ok lc ck, ck, cl] at G
  simp only [Int.toNat_natCast] at G
  rw [Fld.num_put s.data.toList a b v (by rw [ls]; exact h3) h4] at G
  have G1 := Lib.hid (fun (k : Nat) (hk : k < 8 * s.size) w => show Calls Try.prog 10 #[.string c, .int .i64 k, .int .i64 1] w fun e w' => e = .returned (.tuple #[.int .u64 (Fld.bit (Fld.put s.data.toList a b v b) k : Nat), .int .i64 0]) ∧ Below w.heap.size w w' from by
    have g := get_any c k 1 (by omega) w
    have ck1 : Fld.chk s.size k 1 = 0 := Fld.chk_ok (by omega) ⟨⟨by omega, by omega⟩, by omega, by omega⟩
    rw [cs, Fld.getV_ok lc ck1, ck1, cl] at g
    have e1 : Fld.num (Fld.put s.data.toList a b v b) k 1 = Fld.bit (Fld.put s.data.toList a b v b) k := by simp [Fld.num]
    rw [← e1]
    exact g)
  have G2 := Lib.hid (fun (k : Nat) (hk : k < 8 * s.size) w => show Calls Try.prog 10 #[.string s, .int .i64 k, .int .i64 1] w fun e w' => e = .returned (.tuple #[.int .u64 (Fld.bit s.data.toList k : Nat), .int .i64 0]) ∧ Below w.heap.size w w' from by
    have g := get_any s k 1 (by omega) w
    have ck1 : Fld.chk s.size k 1 = 0 := Fld.chk_ok (by omega) ⟨⟨by omega, by omega⟩, by omega, by omega⟩
    rw [Fld.getV_ok ls ck1, ck1] at g
    have e1 : Fld.num s.data.toList k 1 = Fld.bit s.data.toList k := by simp [Fld.num]
    rw [← e1]
    exact g)
  have BP := Lib.hid (Fld.bit_put s.data.toList a b v (by rw [ls]; exact h3) b (Nat.le_refl _))
  have P2 := Lib.hid (fun w => put_any c p2 wd2 v2 (by omega) hv2 w)
  have P3 := Lib.hid (fun w => put_any s p2 wd2 v2 (by omega) hv2 w)
  rw [cs] at P2
  have CS := Lib.hid cs
  have CL := Lib.hid cl
  have LC := Lib.hid lc
  have LS := Lib.hid ls
  have CK := Lib.hid cp
  have x0 : c.size ≤ 5000 := by omega
  have x1 : decide (8 * (c.size : Int) < (a : Int)) = false := by simp; omega
  obtain ⟨m1, m2⟩ := len_eq cs
  clear ck cp pl hc cl cs lc ls h4
  go_enter Try.func6, Try.ntmps6
  go_wp2_with fail
  (with_reducible refine (P.out _).mono ?_)
  rintro e w1 ⟨rfl, h1⟩
  have H1 := Lib.hid (bt H0.out h1)
  have X1 := Lib.hid (X0.out.below h1)
  have Y1 := Lib.hid (Y0.out.below h1)
  obtain ⟨⟨c0, c1⟩, c2, c3, c4⟩ := X1.out
  obtain ⟨⟨d0, d1⟩, d2, d3, d4⟩ := Y1.out
  clear h1 H0
  go_wp2_with fail
  (with_reducible refine (G.out _).mono ?_)
  rintro e w2 ⟨rfl, h2⟩
  have H2 := Lib.hid (bt H1.out h2)
  have X2 := Lib.hid (X1.out.below h2)
  have Y2 := Lib.hid (Y1.out.below h2)
  obtain ⟨⟨c0, c1⟩, c2, c3, c4⟩ := X2.out
  obtain ⟨⟨d0, d1⟩, d2, d3, d4⟩ := Y2.out
  clear h2 H1
  go_wp2_with fail

  go_loopw [9] (fun i wr => ∃ k : Nat, k ≤ 8 * s.size ∧ i = .int .i64 k ∧ Below w.heap.size w wr ∧ Chg wr w.heap.size s a b v ∧ Chg wr (w.heap.size + 1) t p2 wd2 v2) (fun i _ => 8 * s.size - (intOf i).toNat)
  case atStart => exact ⟨0, Nat.zero_le _, rfl, H2.out, X2.out, by have := Y2.out; rwa [World.size_alloc] at this⟩
  case round =>
    obtain ⟨k, hk, rfl, hB, hX, hY⟩ := hrel
    have H3 := Lib.hid hB
    have X3 := Lib.hid hX
    have Y3 := Lib.hid hY
    obtain ⟨⟨c0, c1⟩, c2, c3, c4⟩ := X3.out
    obtain ⟨⟨d0, d1⟩, d2, d3, d4⟩ := Y3.out
    clear hB hX hY
    have cs := CS.out
    by_cases hlt : k < 8 * s.size
    · have l1 : (k : Int) < 8 * (c.size : Int) := by omega
      have bp := BP.out k
      have g1 := G1.out k hlt
      have g2 := G2.out k hlt
      obtain ⟨x, hx⟩ : ∃ x, Fld.bit (Fld.put s.data.toList a b v b) k = x := ⟨_, rfl⟩
      obtain ⟨y, hy⟩ : ∃ y, Fld.bit s.data.toList k = y := ⟨_, rfl⟩
      rw [hx, hy] at bp
      rw [hx] at g1
      rw [hy] at g2
      have GG1 := Lib.hid g1
      have GG2 := Lib.hid g2
      clear g1 g2 hx hy cs
      by_cases hin : a ≤ k ∧ k < a + b
      · obtain ⟨i1, i2⟩ := hin
        have i1' : ¬ (k : Int) < (a : Int) := by omega
        have i2' : ¬ (a : Int) + (b : Int) ≤ (k : Int) := by omega
        have j1 : decide ((k : Int) < (a : Int)) = false := by simp; omega
        have j2 : decide ((a : Int) + (b : Int) ≤ (k : Int)) = false := by simp; omega
        clear bp
        go_wp2_with fail
        (with_reducible refine (GG1.out _).mono ?_)
        rintro e w4 ⟨rfl, h4⟩
        have H4 := Lib.hid (bt H3.out h4)
        have X4 := Lib.hid (X3.out.below h4)
        have Y4 := Lib.hid (Y3.out.below h4)
        obtain ⟨⟨c0, c1⟩, c2, c3, c4⟩ := X4.out
        obtain ⟨⟨d0, d1⟩, d2, d3, d4⟩ := Y4.out
        clear h4 H3
        go_wp2_with fail
        (with_reducible refine (GG2.out _).mono ?_)
        rintro e w5 ⟨rfl, h5⟩
        have H5 := Lib.hid (bt H4.out h5)
        have X5 := Lib.hid (X4.out.below h5)
        have Y5 := Lib.hid (Y4.out.below h5)
        obtain ⟨⟨c0, c1⟩, c2, c3, c4⟩ := X5.out
        obtain ⟨⟨d0, d1⟩, d2, d3, d4⟩ := Y5.out
        clear h5 H4
        go_wp2_with fail
        go_roundw
        case rel => exact ⟨k + 1, by omega, by go_num, H5.out, X5.out, Y5.out⟩
        case measure => simp [intOf]; omega
      · rw [if_neg hin] at bp
        subst bp
        have q1 : ((x : Int) == (x : Int)) = true := by simp
        have q2 : ((x : Int) != (x : Int)) = false := by simp
        by_cases i1 : k < a
        · have i1' : (k : Int) < (a : Int) := by omega
          clear hin
          go_wp2_with fail
          (with_reducible refine (GG1.out _).mono ?_)
          rintro e w4 ⟨rfl, h4⟩
          have H4 := Lib.hid (bt H3.out h4)
          have X4 := Lib.hid (X3.out.below h4)
          have Y4 := Lib.hid (Y3.out.below h4)
          obtain ⟨⟨c0, c1⟩, c2, c3, c4⟩ := X4.out
          obtain ⟨⟨d0, d1⟩, d2, d3, d4⟩ := Y4.out
          clear h4 H3
          go_wp2_with fail
          (with_reducible refine (GG2.out _).mono ?_)
          rintro e w5 ⟨rfl, h5⟩
          have H5 := Lib.hid (bt H4.out h5)
          have X5 := Lib.hid (X4.out.below h5)
          have Y5 := Lib.hid (Y4.out.below h5)
          obtain ⟨⟨c0, c1⟩, c2, c3, c4⟩ := X5.out
          obtain ⟨⟨d0, d1⟩, d2, d3, d4⟩ := Y5.out
          clear h5 H4
          go_wp2_with fail
          go_roundw
          case rel => exact ⟨k + 1, by omega, by go_num, H5.out, X5.out, Y5.out⟩
          case measure => simp [intOf]; omega
        · have i1' : ¬ (k : Int) < (a : Int) := by omega
          have j1 : decide ((k : Int) < (a : Int)) = false := by simp; omega
          have i2' : (a : Int) + (b : Int) ≤ (k : Int) := by omega
          clear hin
          go_wp2_with fail
          (with_reducible refine (GG1.out _).mono ?_)
          rintro e w4 ⟨rfl, h4⟩
          have H4 := Lib.hid (bt H3.out h4)
          have X4 := Lib.hid (X3.out.below h4)
          have Y4 := Lib.hid (Y3.out.below h4)
          obtain ⟨⟨c0, c1⟩, c2, c3, c4⟩ := X4.out
          obtain ⟨⟨d0, d1⟩, d2, d3, d4⟩ := Y4.out
          clear h4 H3
          go_wp2_with fail
          (with_reducible refine (GG2.out _).mono ?_)
          rintro e w5 ⟨rfl, h5⟩
          have H5 := Lib.hid (bt H4.out h5)
          have X5 := Lib.hid (X4.out.below h5)
          have Y5 := Lib.hid (Y4.out.below h5)
          obtain ⟨⟨c0, c1⟩, c2, c3, c4⟩ := X5.out
          obtain ⟨⟨d0, d1⟩, d2, d3, d4⟩ := Y5.out
          clear h5 H4
          go_wp2_with fail
          go_roundw
          case rel => exact ⟨k + 1, by omega, by go_num, H5.out, X5.out, Y5.out⟩
          case measure => simp [intOf]; omega
    · have l1 : ¬ (k : Int) < 8 * (c.size : Int) := by omega
      have cz := Fld.chkP_cases (n := s.size) (p := p2) (wd := wd2) (v := v2)
      have pv1 := Fld.putV_ok (p := p2) (wd := wd2) (v := v2) LC.out
      have pv2 := Fld.putV_ok (p := p2) (wd := wd2) (v := v2) LS.out
      obtain ⟨e1, he1⟩ : ∃ e, Fld.chkP s.size p2 wd2 v2 = e := ⟨_, rfl⟩
      rw [he1] at P2 P3 cz pv1 pv2
      obtain ⟨x1, hx1⟩ : ∃ x : ByteArray, (⟨(Fld.putV c.data.toList p2 wd2 v2).toArray⟩ : ByteArray) = x := ⟨_, rfl⟩
      obtain ⟨x2, hx2⟩ : ∃ x : ByteArray, (⟨(Fld.putV s.data.toList p2 wd2 v2).toArray⟩ : ByteArray) = x := ⟨_, rfl⟩
      rw [hx1] at P2
      rw [hx2] at P3
      have e2 : (e1 == e1) = true := by simp
      have e3 : (e1 != e1) = false := by simp
      by_cases ez : e1 = 0
      · have HX1 := Lib.hid hx1
        have HX2 := Lib.hid hx2
        have PV1 := Lib.hid (pv1 ez)
        have PV2 := Lib.hid (pv2 ez)
        obtain ⟨⟨⟨y1, y2⟩, y3, y4⟩, y5, y6⟩ := cz ez
        subst ez
        obtain ⟨a2, rfl⟩ := Int.eq_ofNat_of_zero_le y3
        obtain ⟨b2, rfl⟩ := Int.eq_ofNat_of_zero_le (show 0 ≤ wd2 by omega)
        have z1 : ¬ 8 * (c.size : Int) < (a2 : Int) := by omega
        have z2 : decide (8 * (c.size : Int) < (a2 : Int)) = false := by simp; omega
        have z3 : a2 + b2 ≤ 8 * s.size := by omega
        clear cz pv1 pv2 he1 hx1 hx2 y6 cs
        by_cases ov : a2 < a + b ∧ a < a2 + b2
        · obtain ⟨o1, o2⟩ := ov
          have o1' : (a2 : Int) < (a : Int) + (b : Int) := by omega
          have o2' : (a : Int) < (a2 : Int) + (b2 : Int) := by omega
          go_wp2_with fail
          (with_reducible refine (P2.out _).mono ?_)
          rintro e w4 ⟨rfl, h4⟩
          have H4 := Lib.hid (bt H3.out h4)
          have X4 := Lib.hid (X3.out.below h4)
          have Y4 := Lib.hid (Y3.out.below h4)
          obtain ⟨⟨c0, c1⟩, c2, c3, c4⟩ := X4.out
          obtain ⟨⟨d0, d1⟩, d2, d3, d4⟩ := Y4.out
          clear h4 H3
          go_wp2_with fail
          (with_reducible refine (P3.out _).mono ?_)
          rintro e w5 ⟨rfl, h5⟩
          have H5 := Lib.hid (bt H4.out h5)
          have X5 := Lib.hid (X4.out.below h5)
          have Y5 := Lib.hid (Y4.out.below h5)
          obtain ⟨⟨c0, c1⟩, c2, c3, c4⟩ := X5.out
          obtain ⟨⟨d0, d1⟩, d2, d3, d4⟩ := Y5.out
          clear h5 H4
          go_wp2_with fail
          (with_reducible refine (AW.out _).mono ?_)
          rintro e w9 ⟨rfl, h9⟩
          have H9 := Lib.hid (bt H5.out h9)
          clear h9
          go_wp2_with fail
          go_ret
          exact ⟨rfl, H9.out⟩
        · have x2l : x2.data.toList = Fld.put s.data.toList a2 b2 v2 b2 := by rw [← HX2.out, PV2.out]; simp
          have x2s : x2.size = s.size := by
            have h := Fld.put_length s.data.toList a2 b2 v2 b2
            rw [← x2l, LS.out] at h
            simpa using h
          have P4 := Lib.hid (fun w => put_any x2 a b v (by omega) hv w)
          rw [x2s, Fld.putV_ok (by rw [x2l, Fld.put_length, LS.out]) CK.out, CK.out, x2l] at P4
          simp only [Int.toNat_natCast] at P4
          have cm := Fld.put_comm s.data.toList a b v a2 b2 v2 (by rw [LS.out]; exact h3) (by rw [LS.out]; exact z3) (by omega)
          have x1e : (⟨(Fld.put (Fld.put s.data.toList a2 b2 v2 b2) a b v b).toArray⟩ : ByteArray) = x1 := by
            rw [← HX1.out, PV1.out, CL.out]
            simp only [Int.toNat_natCast]
            rw [cm]
          rw [x1e] at P4
          clear x1e cm x2l x2s
          by_cases o1 : a2 < a + b
          · have o1' : (a2 : Int) < (a : Int) + (b : Int) := by omega
            have o2' : decide ((a : Int) < (a2 : Int) + (b2 : Int)) = false := by simp; omega
            clear ov o1
            go_wp2_with fail
            (with_reducible refine (P2.out _).mono ?_)
            rintro e w4 ⟨rfl, h4⟩
            have H4 := Lib.hid (bt H3.out h4)
            have X4 := Lib.hid (X3.out.below h4)
            have Y4 := Lib.hid (Y3.out.below h4)
            obtain ⟨⟨c0, c1⟩, c2, c3, c4⟩ := X4.out
            obtain ⟨⟨d0, d1⟩, d2, d3, d4⟩ := Y4.out
            clear h4 H3
            go_wp2_with fail
            (with_reducible refine (P3.out _).mono ?_)
            rintro e w5 ⟨rfl, h5⟩
            have H5 := Lib.hid (bt H4.out h5)
            have X5 := Lib.hid (X4.out.below h5)
            have Y5 := Lib.hid (Y4.out.below h5)
            obtain ⟨⟨c0, c1⟩, c2, c3, c4⟩ := X5.out
            obtain ⟨⟨d0, d1⟩, d2, d3, d4⟩ := Y5.out
            clear h5 H4
            go_wp2_with fail
            (with_reducible refine (P4.out _).mono ?_)
            rintro e w6 ⟨rfl, h6⟩
            have H6 := Lib.hid (bt H5.out h6)
            have X6 := Lib.hid (X5.out.below h6)
            have Y6 := Lib.hid (Y5.out.below h6)
            obtain ⟨⟨c0, c1⟩, c2, c3, c4⟩ := X6.out
            obtain ⟨⟨d0, d1⟩, d2, d3, d4⟩ := Y6.out
            clear h6 H5
            go_wp2_with fail
            (with_reducible refine (AW.out _).mono ?_)
            rintro e w9 ⟨rfl, h9⟩
            have H9 := Lib.hid (bt H6.out h9)
            clear h9
            go_wp2_with fail
            go_ret
            exact ⟨rfl, H9.out⟩
          · have o1' : decide ((a2 : Int) < (a : Int) + (b : Int)) = false := by simp; omega
            clear ov o1
            go_wp2_with fail
            (with_reducible refine (P2.out _).mono ?_)
            rintro e w4 ⟨rfl, h4⟩
            have H4 := Lib.hid (bt H3.out h4)
            have X4 := Lib.hid (X3.out.below h4)
            have Y4 := Lib.hid (Y3.out.below h4)
            obtain ⟨⟨c0, c1⟩, c2, c3, c4⟩ := X4.out
            obtain ⟨⟨d0, d1⟩, d2, d3, d4⟩ := Y4.out
            clear h4 H3
            go_wp2_with fail
            (with_reducible refine (P3.out _).mono ?_)
            rintro e w5 ⟨rfl, h5⟩
            have H5 := Lib.hid (bt H4.out h5)
            have X5 := Lib.hid (X4.out.below h5)
            have Y5 := Lib.hid (Y4.out.below h5)
            obtain ⟨⟨c0, c1⟩, c2, c3, c4⟩ := X5.out
            obtain ⟨⟨d0, d1⟩, d2, d3, d4⟩ := Y5.out
            clear h5 H4
            go_wp2_with fail
            (with_reducible refine (P4.out _).mono ?_)
            rintro e w6 ⟨rfl, h6⟩
            have H6 := Lib.hid (bt H5.out h6)
            have X6 := Lib.hid (X5.out.below h6)
            have Y6 := Lib.hid (Y5.out.below h6)
            obtain ⟨⟨c0, c1⟩, c2, c3, c4⟩ := X6.out
            obtain ⟨⟨d0, d1⟩, d2, d3, d4⟩ := Y6.out
            clear h6 H5
            go_wp2_with fail
            (with_reducible refine (AW.out _).mono ?_)
            rintro e w9 ⟨rfl, h9⟩
            have H9 := Lib.hid (bt H6.out h9)
            clear h9
            go_wp2_with fail
            go_ret
            exact ⟨rfl, H9.out⟩
      · have z1 : (e1 == 0) = false := by simpa using ez
        have z2 : (e1 != 0) = true := by simpa using ez
        clear ez cz pv1 pv2 he1 hx1 hx2 cs
        go_wp2_with fail
        (with_reducible refine (P2.out _).mono ?_)
        rintro e w4 ⟨rfl, h4⟩
        have H4 := Lib.hid (bt H3.out h4)
        have X4 := Lib.hid (X3.out.below h4)
        have Y4 := Lib.hid (Y3.out.below h4)
        obtain ⟨⟨c0, c1⟩, c2, c3, c4⟩ := X4.out
        obtain ⟨⟨d0, d1⟩, d2, d3, d4⟩ := Y4.out
        clear h4 H3
        go_wp2_with fail
        (with_reducible refine (P3.out _).mono ?_)
        rintro e w5 ⟨rfl, h5⟩
        have H5 := Lib.hid (bt H4.out h5)
        have X5 := Lib.hid (X4.out.below h5)
        have Y5 := Lib.hid (Y4.out.below h5)
        obtain ⟨⟨c0, c1⟩, c2, c3, c4⟩ := X5.out
        obtain ⟨⟨d0, d1⟩, d2, d3, d4⟩ := Y5.out
        clear h5 H4
        go_wp2_with fail
        (with_reducible refine (AW.out _).mono ?_)
        rintro e w9 ⟨rfl, h9⟩
        have H9 := Lib.hid (bt H5.out h9)
        clear h9
        go_wp2_with fail
        go_ret
        exact ⟨rfl, H9.out⟩

end fieldsKeeps
end Go.Proofs.Ytgfjmolihobaeaa
