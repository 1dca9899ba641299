/- The contracts of perigeeref04's Mul, Div, Pow, Log over this program. -/
import Derived.Test.YtlpjhmafplljaaaGreatDoorGalEl
namespace Go.Proofs.YtlpjhmafplljaaaGreatDoor
open Go.RowKit
set_option linter.unusedVariables false

theorem i64_xor_nat (a b : Nat) (ha : a < 512) (hb : b < 512) : bits .xor .i64 (a : Int) (b : Int) = ((a ^^^ b : Nat) : Int) := by
  have hx : a ^^^ b < 2 ^ 9 := Nat.xor_lt_two_pow (by omega) (by omega)
  show IntKind.i64.wrap ((BitVec.ofInt 64 (a : Int) ^^^ BitVec.ofInt 64 (b : Int)).toNat : Int) = _
  rw [BitVec.toNat_xor, ofInt_u64 a (by omega), ofInt_u64 b (by omega), IntKind.wrap_i64]
  omega
theorem bit_tmod (c j : Nat) : ((c : Int) / 2 ^ j).tmod 2 = ((c / 2 ^ j % 2 : Nat) : Int) := by
  rw [Int.tmod_eq_emod_of_nonneg (Int.ediv_nonneg (by omega) (Int.pow_nonneg (by omega)))]
  simp
theorem img_step (c : Nat → BitVec 8) (b : BitVec 8) (k : Nat) : Crc.img c b (k + 1) = if b.toNat / 2 ^ k % 2 = 1 then Crc.img c b k ^^^ c k else Crc.img c b k := by
  have e : b.getLsbD k = decide (b.toNat / 2 ^ k % 2 = 1) := Nat.testBit_eq_decide_div_mod_eq
  show (if b.getLsbD k then _ else _) = _
  rw [e]
  by_cases h : b.toNat / 2 ^ k % 2 = 1
  · rw [if_pos h, if_pos (decide_eq_true h)]
  · rw [if_neg h, if_neg (by simpa using h)]
set_option maxRecDepth 100000 in
theorem rmul_any (a b : BitVec 8) (w : World) :
    Calls Tryz.prog 45 #[.int .u8 (a.toNat : Nat), .int .u8 (b.toNat : Nat)] w fun e w' => e = .returned (.int .u8 ((Gal.mul a b).toNat : Nat)) ∧ w = w' := by
  obtain ⟨A, hA⟩ : ∃ X, a.toNat = X := ⟨_, rfl⟩
  obtain ⟨B, hB⟩ : ∃ X, b.toNat = X := ⟨_, rfl⟩
  have a8 : A < 256 := by rw [← hA]; exact a.isLt
  have b8 : B < 256 := by rw [← hB]; exact b.isLt
  rw [hA, hB]
  have HA := Lib.hid hA
  have HB := Lib.hid hB
  clear hA hB
  go_enter Tryz.func45, Tryz.ntmps45
  go_wp2_with fail
  go_loop [5, 6, 7] (fun o x i => ∃ k : Nat, k ≤ 8 ∧ i = .int .i64 k ∧ o = .int .i64 ((Crc.img (fun i => Crc.it Gal.dbl i a) b k).toNat : Nat) ∧ x = .int .i64 ((Crc.it Gal.dbl k a).toNat : Nat)) (fun _ _ i => 8 - (intOf i).toNat)
  case atStart => exact ⟨0, Nat.zero_le _, rfl, rfl, by rw [show Crc.it Gal.dbl 0 a = a from rfl, HA.out]⟩
  case round =>
    obtain ⟨k, hk, rfl, rfl, rfl⟩ := hrel
    by_cases hlt : k < 8
    · have S := img_step (fun i => Crc.it Gal.dbl i a) b k
      have D := Gal.dbl_nat (Crc.it Gal.dbl k a).toNat (Crc.it Gal.dbl k a).isLt
      rw [BitVec.ofNat_toNat, BitVec.setWidth_eq, show Gal.dbl (Crc.it Gal.dbl k a) = Crc.it Gal.dbl (k + 1) a from rfl] at D
      have bi := bit_tmod B k
      rw [HB.out] at S
      obtain ⟨x, hx⟩ : ∃ x, Crc.it Gal.dbl k a = x := ⟨_, rfl⟩
      obtain ⟨u, hu⟩ : ∃ x, Crc.img (fun i => Crc.it Gal.dbl i a) b k = x := ⟨_, rfl⟩
      obtain ⟨u', hu'⟩ : ∃ x, Crc.img (fun i => Crc.it Gal.dbl i a) b (k + 1) = x := ⟨_, rfl⟩
      obtain ⟨Y, hY⟩ : ∃ x, (Crc.it Gal.dbl (k + 1) a).toNat = x := ⟨_, rfl⟩
      rw [hx] at S D
      rw [hu, hu'] at S
      rw [hY] at D
      rw [hx, hu]
      have ux := congrArg BitVec.toNat S
      have U8 : u.toNat < 256 := u.isLt
      have X8 : x.toNat < 256 := x.isLt
      have HU := Lib.hid hu'
      have HY := Lib.hid hY
      obtain ⟨X, hX⟩ : ∃ X, x.toNat = X := ⟨_, rfl⟩
      obtain ⟨U, hU⟩ : ∃ X, u.toNat = X := ⟨_, rfl⟩
      rw [hX] at D X8 ⊢
      rw [hU] at U8 ⊢
      obtain ⟨t, ht⟩ : ∃ t, B / 2 ^ k % 2 = t := ⟨_, rfl⟩
      rw [ht] at bi ux
      have ex := i64_xor_nat U X (by omega) (by omega)
      have ey := i64_xor_nat (X * 2) 285 (by omega) (by omega)
      rw [show ((X * 2 : Nat) : Int) = (X : Int) * 2 by omega, show ((285 : Nat) : Int) = 285 from rfl] at ey
      have Y8 : Y < 256 := by rw [← hY]; exact (Crc.it Gal.dbl (k + 1) a).isLt
      clear S hx hu hu' hY
      by_cases g : t = 1
      · subst g
        rw [if_pos rfl, BitVec.toNat_xor, hU, hX] at ux
        rw [← ux] at ex
        obtain ⟨V, hV⟩ : ∃ V, u'.toNat = V := ⟨_, rfl⟩
        rw [hV] at ex
        have HV := Lib.hid hV
        rw [show ((1 : Nat) : Int) = 1 from rfl] at bi
        by_cases g2 : 256 ≤ X * 2
        · rw [if_pos g2] at D
          rw [← D] at ey
          have t1 : decide ((256 : Int) ≤ (X : Int) * 2) = true := by simp; omega
          clear D hX hU ux ht hV
          go_wp2_with fail
          go_round
          case rel => exact ⟨k + 1, by omega, by go_num, by rw [HU.out, HV.out], by rw [HY.out]⟩
          case measure => simp [intOf]; omega
        · rw [if_neg g2] at D
          have t1 : decide ((256 : Int) ≤ (X : Int) * 2) = false := by simp; omega
          have HD := Lib.hid D
          clear D hX hU ux ht hV ey
          go_wp2_with fail
          go_round
          case rel => exact ⟨k + 1, by omega, by go_num, by rw [HU.out, HV.out], by rw [HY.out, HD.out]; go_num⟩
          case measure => simp [intOf]; omega
      · rw [if_neg g, hU] at ux
        have t0 : t = 0 := by omega
        subst t0
        rw [show ((0 : Nat) : Int) = 0 from rfl] at bi
        have HV := Lib.hid ux
        by_cases g2 : 256 ≤ X * 2
        · rw [if_pos g2] at D
          rw [← D] at ey
          have t1 : decide ((256 : Int) ≤ (X : Int) * 2) = true := by simp; omega
          clear D hX hU ux ht ex
          go_wp2_with fail
          go_round
          case rel => exact ⟨k + 1, by omega, by go_num, by rw [HU.out, HV.out], by rw [HY.out]⟩
          case measure => simp [intOf]; omega
        · rw [if_neg g2] at D
          have t1 : decide ((256 : Int) ≤ (X : Int) * 2) = false := by simp; omega
          have HD := Lib.hid D
          clear D hX hU ux ht ey ex
          go_wp2_with fail
          go_round
          case rel => exact ⟨k + 1, by omega, by go_num, by rw [HU.out, HV.out], by rw [HY.out, HD.out]; go_num⟩
          case measure => simp [intOf]; omega
    · obtain rfl : k = 8 := by omega
      rw [show Crc.img (fun i => Crc.it Gal.dbl i a) b 8 = Gal.mul a b from rfl]
      have U8 : (Gal.mul a b).toNat < 256 := (Gal.mul a b).isLt
      obtain ⟨U, hU⟩ : ∃ X, (Gal.mul a b).toNat = X := ⟨_, rfl⟩
      rw [hU] at U8 ⊢
      obtain ⟨X, hX⟩ : ∃ X, (Crc.it Gal.dbl 8 a).toNat = X := ⟨_, rfl⟩
      rw [hX]
      have um : IntKind.u8.wrap (U : Int) = (U : Int) := by rw [IntKind.wrap_u8]; omega
      have HUU := Lib.hid hU
      clear hU hX
      go_wp2_with fail
      go_ret
      exact ⟨by rw [HUU.out]; rfl, rfl⟩
set_option maxRecDepth 100000 in
theorem rdiv_any (a b : BitVec 8) (w : World) :
    Calls Tryz.prog 44 #[.int .u8 (a.toNat : Nat), .int .u8 (b.toNat : Nat)] w fun e w' => e = .returned (.tuple #[.int .u8 ((Gal.divV a b).toNat : Nat), .int .i64 (Gal.divE b)]) ∧ w = w' := by
  by_cases h : b = 0#8
  · subst h
    rw [show (Gal.divV a 0#8).toNat = 0 from rfl, show Gal.divE 0#8 = 2 from rfl, show ((0#8).toNat : Int) = 0 from rfl, show ((0 : Nat) : Int) = 0 from rfl]
    obtain ⟨X, hX⟩ : ∃ X, a.toNat = X := ⟨_, rfl⟩
    rw [hX]
    clear hX
    go_enter Tryz.func44, Tryz.ntmps44
    go_wp2_with fail
    go_ret2
    exact ⟨rfl, rfl⟩
  · have y0 := eq0 h
    rw [show Gal.divE b = 0 from if_neg h, show Gal.divV a b = Gal.mul a (Gal.inv b) from if_neg h]
    have UN := Lib.hid (fun c e => Gal.div_unique (a := a) (b := b) (c := c) h e)
    have EQ := Lib.hid (Gal.div_mul (a := a) (b := b) h)
    have RM := Lib.hid (fun c w => rmul_any c b w)
    obtain ⟨q, hq⟩ : ∃ q, Gal.mul a (Gal.inv b) = q := ⟨_, rfl⟩
    rw [hq] at UN EQ ⊢
    obtain ⟨Q, hQ⟩ : ∃ X, q.toNat = X := ⟨_, rfl⟩
    have q8 : Q < 256 := by rw [← hQ]; exact q.isLt
    obtain ⟨B, hB⟩ : ∃ X, b.toNat = X := ⟨_, rfl⟩
    obtain ⟨A, hA⟩ : ∃ X, a.toNat = X := ⟨_, rfl⟩
    rw [hB] at y0
    rw [hA, hB, hQ]
    have HQ := Lib.hid hQ
    have HA := Lib.hid hA
    have HB := Lib.hid hB
    clear hQ hq h hA hB
    go_enter Tryz.func44, Tryz.ntmps44
    go_wp2_with fail
    go_loop [6] (fun i => ∃ k : Nat, k ≤ Q ∧ i = .int .i64 k) (fun i => 256 - (intOf i).toNat)
    case atStart => exact ⟨0, Nat.zero_le _, rfl⟩
    case round =>
      obtain ⟨k, hk, rfl⟩ := hrel
      have km : IntKind.u8.wrap (k : Int) = (k : Int) := by rw [IntKind.wrap_u8]; omega
      have C := Lib.hid (RM.out (BitVec.ofNat 8 k))
      rw [HB.out, show (BitVec.ofNat 8 k).toNat = k by rw [BitVec.toNat_ofNat]; omega] at C
      obtain ⟨v, hv⟩ : ∃ v, (Gal.mul (BitVec.ofNat 8 k) b).toNat = v := ⟨_, rfl⟩
      rw [hv] at C
      by_cases g : k = Q
      · subst g
        have e : v = A := by
          rw [← hv, ← HA.out, ← EQ.out]
          congr 2
          apply BitVec.eq_of_toNat_eq
          rw [BitVec.toNat_ofNat, HQ.out]
          omega
        subst e
        clear hv RM UN EQ HA
        go_wp2_with fail
        (with_reducible refine (C.out _).mono ?_)
        rintro e w' ⟨rfl, rfl⟩
        go_wp2_with fail
        go_ret2
        exact ⟨rfl, rfl⟩
      · have ne : ((v : Int) == (A : Int)) = false := by
          rw [beq_eq_false_iff_ne]
          intro e
          apply g
          have : Gal.mul (BitVec.ofNat 8 k) b = a := BitVec.eq_of_toNat_eq (by rw [hv, HA.out]; omega)
          have := congrArg BitVec.toNat (UN.out _ this)
          rw [HQ.out, BitVec.toNat_ofNat] at this
          omega
        clear hv RM UN EQ HA
        go_wp2_with fail
        (with_reducible refine (C.out _).mono ?_)
        rintro e w' ⟨rfl, rfl⟩
        go_wp2_with fail
        go_round
        case rel => exact ⟨k + 1, by omega, by go_num⟩
        case measure => simp [intOf]; omega
set_option maxRecDepth 100000 in
theorem rpow_any (a : BitVec 8) (n : Int) (w : World) :
    Calls Tryz.prog 53 #[.int .u8 (a.toNat : Nat), .int .i64 n] w fun e w' => e = .returned (.tuple #[.int .u8 ((Gal.powV a n).toNat : Nat), .int .i64 (Gal.powE a n)]) ∧ w = w' := by
  by_cases h : a = 0#8 ∧ n ≠ 0
  · obtain ⟨rfl, hn⟩ := h
    have e1 : Gal.powV 0#8 n = 0#8 := by
      unfold Gal.powV
      rw [if_pos rfl, if_neg hn]
    rw [e1, show ((0#8).toNat : Int) = 0 from rfl]
    by_cases g : n < 0
    · rw [show Gal.powE 0#8 n = 2 from if_pos ⟨rfl, g⟩]
      have g1 : decide (n < 0) = true := decide_eq_true g
      clear e1 hn
      go_enter Tryz.func53, Tryz.ntmps53
      go_wp2_with fail
      go_ret2
      exact ⟨rfl, rfl⟩
    · rw [show Gal.powE 0#8 n = 0 from if_neg (fun q => g q.2)]
      have g1 : decide (n < 0) = false := decide_eq_false g
      have g3 : 0 < n := by omega
      have g2 : decide (0 < n) = true := decide_eq_true g3
      clear e1 hn
      go_enter Tryz.func53, Tryz.ntmps53
      go_wp2_with fail
      go_ret2
      exact ⟨rfl, rfl⟩
  · have ok : a ≠ 0#8 ∨ n = 0 := by
      by_cases h1 : a = 0#8
      · exact .inr (Decidable.byContradiction fun h2 => h ⟨h1, h2⟩)
      · exact .inl h1
    have RM := Lib.hid (fun c w => rmul_any c a w)
    rw [show Gal.powE a n = 0 from if_neg (fun q => h ⟨q.1, by omega⟩), Gal.pow_pown a n ok]
    obtain ⟨K, hK⟩ : ∃ K, (n % 255).toNat = K := ⟨_, rfl⟩
    rw [hK]
    have K2 : K < 255 := by omega
    obtain ⟨V, hV⟩ : ∃ X, (Gal.pown a K).toNat = X := ⟨_, rfl⟩
    rw [hV]
    have HV := Lib.hid hV
    obtain ⟨r, hr⟩ : ∃ r, n.tmod 255 = r := ⟨_, rfl⟩
    have ht : n = 255 * (n.tdiv 255) + n.tmod 255 := (Int.mul_tdiv_add_tmod n 255).symm
    have r1 : -255 < r := by rw [← hr]; have := Int.lt_tmod_of_pos n (show (0 : Int) < 255 by omega); omega
    have r2 : r < 255 := by rw [← hr]; exact Int.tmod_lt_of_pos n (by omega)
    by_cases h1 : a = 0#8
    · have hn : n = 0 := by rcases ok with h2 | h2; exact absurd h1 h2; exact h2
      subst hn
      subst h1
      rw [show (0#8 : BitVec 8).toNat = 0 from rfl, show ((0 : Nat) : Int) = 0 from rfl]
      obtain rfl : K = 0 := by omega
      obtain ⟨a, ha⟩ : ∃ a, a = 0#8 := ⟨_, rfl⟩
      obtain ⟨K, hK0⟩ : ∃ K, K = 0 := ⟨_, rfl⟩
      rw [show V = 1 by rw [← hV]; rfl]
      clear ok h hK ht hr r1 r2 hV HV RM ha hK0 K2
      go_enter Tryz.func53, Tryz.ntmps53
      go_wp2_with fail
      go_loop [7, 8] (fun x i => i = .int .i64 0 ∧ x = .int .u8 1) (fun _ i => 0)
      case atStart => exact ⟨rfl, rfl⟩
      case round =>
        obtain ⟨rfl, rfl⟩ := hrel
        go_wp2_with fail
        go_ret2
        exact ⟨rfl, rfl⟩
    · have y0 := eq0 h1
      obtain ⟨A, hA⟩ : ∃ X, a.toNat = X := ⟨_, rfl⟩
      rw [hA] at y0 ⊢
      have HA := Lib.hid hA
      by_cases g : r < 0
      · have t1 : decide (r < 0) = true := decide_eq_true g
        have e5 : IntKind.i64.wrap (r + 255) = (K : Int) := by rw [IntKind.wrap_i64]; rw [hr] at ht; omega
        clear ok h hK ht hV h1 hA
        go_enter Tryz.func53, Tryz.ntmps53
        go_wp2_with fail
        go_loop [7, 8] (fun x i => ∃ k : Nat, k ≤ K ∧ i = .int .i64 k ∧ x = .int .u8 ((Gal.pown a k).toNat : Nat)) (fun _ i => K - (intOf i).toNat)
        case atStart => exact ⟨0, Nat.zero_le _, rfl, rfl⟩
        case round =>
          obtain ⟨k, hk, rfl, rfl⟩ := hrel
          by_cases hlt : k < K
          · have C := Lib.hid (RM.out (Gal.pown a k))
            rw [show Gal.mul (Gal.pown a k) a = Gal.pown a (k + 1) from rfl, HA.out] at C
            obtain ⟨X, hX⟩ : ∃ X, (Gal.pown a k).toNat = X := ⟨_, rfl⟩
            obtain ⟨Y, hY⟩ : ∃ X, (Gal.pown a (k + 1)).toNat = X := ⟨_, rfl⟩
            rw [hX, hY] at C
            rw [hX]
            have HY := Lib.hid hY
            clear RM hX hY HA
            go_wp2_with fail
            (with_reducible refine (C.out _).mono ?_)
            rintro e w' ⟨rfl, rfl⟩
            go_wp2_with fail
            go_round
            case rel => exact ⟨k + 1, by omega, by go_num, by rw [HY.out]⟩
            case measure => simp [intOf]; omega
          · obtain rfl : k = K := by omega
            rw [HV.out]
            clear RM HA
            go_wp2_with fail
            go_ret2
            exact ⟨rfl, rfl⟩
      · have t1 : decide (r < 0) = false := decide_eq_false g
        obtain rfl : r = (K : Int) := by rw [hr] at ht; omega
        clear ok h hK ht hV h1 hA
        go_enter Tryz.func53, Tryz.ntmps53
        go_wp2_with fail
        go_loop [7, 8] (fun x i => ∃ k : Nat, k ≤ K ∧ i = .int .i64 k ∧ x = .int .u8 ((Gal.pown a k).toNat : Nat)) (fun _ i => K - (intOf i).toNat)
        case atStart => exact ⟨0, Nat.zero_le _, rfl, rfl⟩
        case round =>
          obtain ⟨k, hk, rfl, rfl⟩ := hrel
          by_cases hlt : k < K
          · have C := Lib.hid (RM.out (Gal.pown a k))
            rw [show Gal.mul (Gal.pown a k) a = Gal.pown a (k + 1) from rfl, HA.out] at C
            obtain ⟨X, hX⟩ : ∃ X, (Gal.pown a k).toNat = X := ⟨_, rfl⟩
            obtain ⟨Y, hY⟩ : ∃ X, (Gal.pown a (k + 1)).toNat = X := ⟨_, rfl⟩
            rw [hX, hY] at C
            rw [hX]
            have HY := Lib.hid hY
            clear RM hX hY HA
            go_wp2_with fail
            (with_reducible refine (C.out _).mono ?_)
            rintro e w' ⟨rfl, rfl⟩
            go_wp2_with fail
            go_round
            case rel => exact ⟨k + 1, by omega, by go_num, by rw [HY.out]⟩
            case measure => simp [intOf]; omega
          · obtain rfl : k = K := by omega
            rw [HV.out]
            clear RM HA
            go_wp2_with fail
            go_ret2
            exact ⟨rfl, rfl⟩
end Go.Proofs.YtlpjhmafplljaaaGreatDoor
