/- CrcBursts: of all strings of at most 5000 bytes, a change within 16 consecutive bits changes Sum16, and one within 32 consecutive bits, where the bits of a byte count from the lowest one, changes Sum32. No condition. -/
import Derived.Test.YtkgnhdggfeiheaaCrcBytes
namespace Go.Proofs.Ytkgnhdggfeiheaa
open Go.ChangeShapes Go.WideShapes Go.ChangeAt Go.RowKit
set_option linter.unusedVariables false

namespace crcBursts

theorem xinv (c d : Nat) (hc : c < 256) (hd : d < 8) : bits .xor .u8 (c : Int) ((2 : Int) ^ d % 256) = ((c ^^^ 2 ^ d : Nat) : Int) := by
  have h2 : 2 ^ d < 256 := by
    have := Nat.pow_le_pow_right (n := 2) (by omega) (show d ≤ 7 by omega)
    omega
  have e : (2 : Int) ^ d % 256 = ((2 ^ d : Nat) : Int) := by
    have : (2 : Int) ^ d = ((2 ^ d : Nat) : Int) := by simp
    rw [this]
    generalize 2 ^ d = q at *
    omega
  rw [e]
  exact u8_xor_nat c (2 ^ d) hc h2

set_option maxRecDepth 100000 in
set_option maxHeartbeats 2000000 in
theorem walk_ok (s : ByteArray) (n : Nat) (hn : s.size = n) (h0 : 0 < n) (h1 : n ≤ 5000) (at' : Int) (hat : (Lit.int .i64 at').wf = true) (X : Nat) (hX : X < 4294967296) (hX0 : X ≠ 0) (w : World) :
    Calls Try.prog 6 #[.string s, .int .i64 at', .int .u32 (X : Nat)] w fun e w' => e = .returned (.bool true) ∧ Below w.heap.size w w' := by
  have AW := Lib.hid (fun w => awake_any w)
  have NN := Lib.hid hn
  have PK := Lib.hid (fun w => pick_any at' hat (8 * n) (by omega) (by omega) w)
  have hk : (at' % ((8 * n : Nat) : Int)).toNat < 8 * n := by
    have q1 := Int.emod_lt_of_pos at' (show 0 < ((8 * n : Nat) : Int) by omega)
    have q2 := Int.emod_nonneg at' (show ((8 * n : Nat) : Int) ≠ 0 by omega)
    omega
  obtain ⟨k, ek⟩ : ∃ k, (at' % ((8 * n : Nat) : Int)).toNat = k := ⟨_, rfl⟩
  rw [ek] at PK hk
  rw [show ((8 * n : Nat) : Int) = 8 * (n : Int) by omega] at PK
  have z0 : ((n : Int) == 0) = false := by simp; omega
  have z1 : decide ((5000 : Int) < (n : Int)) = false := by simp; omega
  have z2 : ((X : Int) == 0) = false := by simp; omega
  have c1 := run_bytes_of_string (P := Try.prog) w 9 38 5 s Try.underlying9 Try.underlying38 Try.underlying5
  obtain ⟨cap, hcap⟩ : ∃ cap, grownCap w s.size 0 5 = cap := ⟨_, rfl⟩
  rw [hcap, hn] at c1
  have H1 := Lib.hid (holds_new s cap 5 w.drew)
  obtain ⟨C, hC⟩ : ∃ C, bytesRow s cap = C := ⟨_, rfl⟩
  rw [hC] at c1 H1
  have B1 := Lib.hid (((Below.refl w.heap.size w).drew).alloc (Nat.le_refl _) (.cells C 5 (C.size, C.size + 1)))
  have sz : (w.drew.alloc (.cells C 5 (C.size, C.size + 1))).heap.size = w.heap.size + 1 := by simp
  obtain ⟨v, hv⟩ : ∃ v, w.drew.alloc (.cells C 5 (C.size, C.size + 1)) = v := ⟨_, rfl⟩
  rw [hv] at c1 H1 B1 sz
  have c2 := run_bytes_of_string (P := Try.prog) v 9 38 5 s Try.underlying9 Try.underlying38 Try.underlying5
  obtain ⟨cap2, hcap2⟩ : ∃ cap, grownCap v s.size 0 5 = cap := ⟨_, rfl⟩
  rw [hcap2, hn] at c2
  have H2 := Lib.hid (holds_new s cap2 5 v.drew)
  obtain ⟨D, hD⟩ : ∃ C, bytesRow s cap2 = C := ⟨_, rfl⟩
  rw [hD] at c2 H2
  have G1 := Lib.hid (show Holds (v.drew.alloc (.cells D 5 (D.size, D.size + 1))) w.heap.size s.data.toList from H1.out.keep (((Below.refl v.heap.size v).drew).alloc (Nat.le_refl _) _) (by show w.heap.size < _; omega))
  have G2 := Lib.hid (show Holds (v.drew.alloc (.cells D 5 (D.size, D.size + 1))) (w.heap.size + 1) s.data.toList by rw [← sz]; exact H2.out)
  have B2 := Lib.hid (show Below w.heap.size w (v.drew.alloc (.cells D 5 (D.size, D.size + 1))) from B1.out.drew.alloc (by rw [show v.drew.heap.size = v.heap.size from rfl]; omega) _)
  have W2 := Lib.hid (show (v.drew.alloc (.cells D 5 (D.size, D.size + 1))).heap.size = w.heap.size + 2 by rw [World.size_alloc]; show v.heap.size + 1 = _; omega)
  obtain ⟨u, hu⟩ : ∃ u, v.drew.alloc (.cells D 5 (D.size, D.size + 1)) = u := ⟨_, rfl⟩
  rw [hu] at c2 G1 G2 B2 W2
  rw [sz] at c2
  have C1 := Lib.hid c1
  have C2 := Lib.hid c2
  clear hcap hC hv hcap2 hD hu sz H1 H2 B1 ek c1 c2
  go_enter Try.func6, Try.ntmps6
  go_wp2_with fail
  (with_reducible refine (PK.out _).mono ?_)
  rintro e w' ⟨rfl, rfl⟩
  go_wp2_with (first | (simp only [C1.out]) | (simp only [C2.out]))
  go_loopw [10] (fun i wr => ∃ m : Nat, m ≤ 32 ∧ k + m ≤ 8 * n ∧ i = .int .i64 m ∧ Holds wr w.heap.size (Crc.short s.data.toList k X m) ∧ Holds wr (w.heap.size + 1) (Crc.long s.data.toList k X m) ∧ Below w.heap.size w wr ∧ w.heap.size + 2 ≤ wr.heap.size) (fun i _ => 32 - (intOf i).toNat)
  case atStart => exact ⟨0, by omega, by omega, rfl, G1.out, G2.out, B2.out, Nat.le_of_eq W2.out.symm⟩
  case round =>
    obtain ⟨m, hm, hkm, rfl, hS, hL, hB, hsz⟩ := hrel
    have HS := Lib.hid hS
    have HL := Lib.hid hL
    have HB := Lib.hid hB
    have l1 := Crc.short_length s.data.toList k X m
    have l2 := Crc.long_length s.data.toList k X m
    have ls : s.data.toList.length = n := by rw [← hn]; simp
    clear hS hL hB
    by_cases hlt : m < 32 ∧ k + m < 8 * n
    · have p1 : decide ((m : Int) < 32) = true := by simp; omega
      have p2 : decide ((k : Int) + (m : Int) < 8 * (n : Int)) = true := by simp; omega
      have km : IntKind.i64.wrap ((k : Int) + (m : Int)) = ((k + m : Nat) : Int) := by rw [IntKind.wrap_i64]; omega
      have hj : (k + m) / 8 < n := by omega
      obtain ⟨cS, fS⟩ := HS.out ((k + m) / 8) (by rw [l1, ls]; exact hj)
      obtain ⟨cL, fL⟩ := HL.out ((k + m) / 8) (by rw [l2, ls]; exact hj)
      have bt := bit_int X m
      have tb : X / 2 ^ m % 2 < 2 := Nat.mod_lt _ (by omega)
      have es : Crc.short s.data.toList k X (m + 1) = if m < 16 ∧ X / 2 ^ m % 2 = 1 then Crc.inv (Crc.short s.data.toList k X m) ((k + m) / 8) (7 - (k + m) % 8) else Crc.short s.data.toList k X m := rfl
      have el : Crc.long s.data.toList k X (m + 1) = if X / 2 ^ m % 2 = 1 then Crc.inv (Crc.long s.data.toList k X m) ((k + m) / 8) ((k + m) % 8) else Crc.long s.data.toList k X m := rfl
      obtain ⟨c, hc⟩ : ∃ c, ((Crc.short s.data.toList k X m).getD ((k + m) / 8) 0).toNat = c := ⟨_, rfl⟩
      obtain ⟨d, hd⟩ : ∃ c, ((Crc.long s.data.toList k X m).getD ((k + m) / 8) 0).toNat = c := ⟨_, rfl⟩
      have c8 : c < 256 := by rw [← hc]; exact UInt8.toNat_lt _
      have d8 : d < 256 := by rw [← hd]; exact UInt8.toNat_lt _
      rw [hc] at cS
      rw [hd] at cL
      by_cases g : X / 2 ^ m % 2 = 1
      · rw [g] at bt
        rw [show ((1 : Nat) : Int) = 1 from rfl] at bt
        have bt2 := bt.symm
        rw [if_pos g] at el
        have EL := Lib.hid el
        have x2 := Lib.hid (xinv d ((k + m) % 8) d8 (by omega))
        by_cases h16 : m < 16
        · have p3 : decide ((m : Int) < 16) = true := by simp; omega
          rw [if_pos ⟨h16, g⟩] at es
          have ES := Lib.hid es
          have x1 := Lib.hid (xinv c (7 - (k + m) % 8) c8 (by omega))
          have R1 := Lib.hid ((HS.out.inv ((k + m) / 8) (7 - (k + m) % 8) _ (by rw [l1, ls]; exact hj) (by omega) (by rw [hc])).other (c := w.heap.size + 1) (i := (k + m) / 8) (by omega) (.int .u8 ((d ^^^ 2 ^ ((k + m) % 8) : Nat) : Int)))
          have R2 := Lib.hid ((HL.out.other (c := w.heap.size) (i := (k + m) / 8) (by omega) (.int .u8 ((c ^^^ 2 ^ (7 - (k + m) % 8) : Nat) : Int))).inv ((k + m) / 8) ((k + m) % 8) _ (by rw [l2, ls]; exact hj) (by omega) (by rw [hd]))
          clear g tb bt es el hc hd
          go_wp2_with fail
          rw [x1.out, x2.out]
          go_roundw
          case rel => exact ⟨m + 1, by omega, by omega, by go_num, by rw [ES.out]; exact R1.out, by rw [EL.out]; exact R2.out, (HB.out.setCell (p := ⟨w.heap.size, (k + m) / 8, none⟩) (Nat.le_refl _) _).setCell (p := ⟨w.heap.size + 1, (k + m) / 8, none⟩) (show w.heap.size ≤ w.heap.size + 1 by omega) _, by rw [World.size_setCell, World.size_setCell]; exact hsz⟩
          case measure => simp [intOf]; omega
        · have p3 : decide ((m : Int) < 16) = false := by simp; omega
          rw [if_neg (fun h => h16 h.1)] at es
          have ES := Lib.hid es
          have R1 := Lib.hid (HS.out.other (c := w.heap.size + 1) (i := (k + m) / 8) (by omega) (.int .u8 ((d ^^^ 2 ^ ((k + m) % 8) : Nat) : Int)))
          have R2 := Lib.hid (HL.out.inv ((k + m) / 8) ((k + m) % 8) _ (by rw [l2, ls]; exact hj) (by omega) (by rw [hd]))
          clear g tb bt es el hc hd
          go_wp2_with fail
          rw [x2.out]
          go_roundw
          case rel => exact ⟨m + 1, by omega, by omega, by go_num, by rw [ES.out]; exact R1.out, by rw [EL.out]; exact R2.out, HB.out.setCell (p := ⟨w.heap.size + 1, (k + m) / 8, none⟩) (show w.heap.size ≤ w.heap.size + 1 by omega) _, by rw [World.size_setCell]; exact hsz⟩
          case measure => simp [intOf]; omega
      · have g0 : X / 2 ^ m % 2 = 0 := by omega
        rw [g0] at bt
        rw [show ((0 : Nat) : Int) = 0 from rfl] at bt
        have bt2 := bt.symm
        rw [if_neg g] at el
        rw [if_neg (fun h => g h.2)] at es
        have ES := Lib.hid es
        have EL := Lib.hid el
        by_cases h16 : m < 16
        · have p3 : decide ((m : Int) < 16) = true := by simp; omega
          clear g g0 tb bt es el hc hd
          go_wp2_with fail
          go_roundw
          case rel => exact ⟨m + 1, by omega, by omega, by go_num, by rw [ES.out]; exact HS.out, by rw [EL.out]; exact HL.out, HB.out, hsz⟩
          case measure => simp [intOf]; omega
        · have p3 : decide ((m : Int) < 16) = false := by simp; omega
          clear g g0 tb bt es el hc hd
          go_wp2_with fail
          go_roundw
          case rel => exact ⟨m + 1, by omega, by omega, by go_num, by rw [ES.out]; exact HS.out, by rw [EL.out]; exact HL.out, HB.out, hsz⟩
          case measure => simp [intOf]; omega
    · have ss := Crc.short_sum s.data.toList k X m (by rw [ls]; omega) (by rw [ls]; omega)
      have sl := Crc.long_sum s.data.toList k X m hm (by rw [ls]; omega)
      have bk1 := HS.out.back (cap := cap)
      have bk2 := fun (W : World) (hb : Below wr.heap.size wr W) => (HL.out.keep hb (show w.heap.size + 1 < wr.heap.size by omega)).back (cap := cap2)
      rw [l1, ls] at bk1
      simp only [l2, ls] at bk2
      have n1 : (⟨(Crc.short s.data.toList k X m).toArray⟩ : ByteArray).size = n := by show (Crc.short s.data.toList k X m).toArray.size = n; simp [l1, hn]
      have n2 : (⟨(Crc.long s.data.toList k X m).toArray⟩ : ByteArray).size = n := by show (Crc.long s.data.toList k X m).toArray.size = n; simp [l2, hn]
      obtain ⟨S, hS⟩ : ∃ S, Crc.short s.data.toList k X m = S := ⟨_, rfl⟩
      obtain ⟨L, hL⟩ : ∃ S, Crc.long s.data.toList k X m = S := ⟨_, rfl⟩
      rw [hS] at ss bk1 n1
      rw [hL] at sl n2
      simp only [hL] at bk2
      have A1 := Lib.hid (fun w => sum16_any ⟨S.toArray⟩ (Nat.le_trans (Nat.le_of_eq n1) (by omega)) w)
      have A2 := Lib.hid (fun w => sum16_any s (by omega) w)
      have A3 := Lib.hid (fun w => sum32_any ⟨L.toArray⟩ (Nat.le_trans (Nat.le_of_eq n2) (by omega)) w)
      have A4 := Lib.hid (fun w => sum32_any s (by omega) w)
      have s1 : (Crc.sum16 S).toNat = (Crc.sum16 s.data.toList).toNat → (⟨S.toArray⟩ : ByteArray) = s := fun h => by rw [ss (BitVec.eq_of_toNat_eq h)]
      have s2 : (Crc.sum32 L).toNat = (Crc.sum32 s.data.toList).toNat → (⟨L.toArray⟩ : ByteArray) = s := fun h => by rw [sl (BitVec.eq_of_toNat_eq h)]
      rw [show (⟨S.toArray⟩ : ByteArray).data.toList = S from rfl] at A1
      rw [show (⟨L.toArray⟩ : ByteArray).data.toList = L from rfl] at A3
      obtain ⟨a1, ha1⟩ : ∃ a, (Crc.sum16 S).toNat = a := ⟨_, rfl⟩
      obtain ⟨a2, ha2⟩ : ∃ a, (Crc.sum16 s.data.toList).toNat = a := ⟨_, rfl⟩
      obtain ⟨a3, ha3⟩ : ∃ a, (Crc.sum32 L).toNat = a := ⟨_, rfl⟩
      obtain ⟨a4, ha4⟩ : ∃ a, (Crc.sum32 s.data.toList).toNat = a := ⟨_, rfl⟩
      rw [ha1] at A1 s1
      rw [ha2] at A2 s1
      rw [ha3] at A3 s2
      rw [ha4] at A4 s2
      obtain ⟨q1, hq1⟩ : ∃ q : ByteArray, (⟨S.toArray⟩ : ByteArray) = q := ⟨_, rfl⟩
      obtain ⟨q2, hq2⟩ : ∃ q : ByteArray, (⟨L.toArray⟩ : ByteArray) = q := ⟨_, rfl⟩
      rw [hq1] at A1 s1 bk1
      rw [hq2] at A3 s2
      simp only [hq2] at bk2
      have CL := Lib.hid bk2
      have BK1 := Lib.hid bk1
      have ee : (s == s) = true := by show (s.data == s.data) = true; simp
      clear ss sl bk1 bk2 n1 n2 hS hL ha1 ha2 ha3 ha4 hq1 hq2 HS HL l1 l2 ls PK
      by_cases h32 : m < 32
      · have p1 : decide ((m : Int) < 32) = true := by simp; omega
        have p2 : decide ((k : Int) + (m : Int) < 8 * (n : Int)) = false := by simp; omega
        have km : IntKind.i64.wrap ((k : Int) + (m : Int)) = ((k + m : Nat) : Int) := by rw [IntKind.wrap_i64]; omega
        by_cases c1 : q1 = s
        · rw [c1] at BK1
          clear c1 s1 A1 A2
          by_cases c2 : q2 = s
          · have CV := Lib.hid (CL.out wr (Below.refl _ _))
            rw [c2] at CV
            clear c2 s2 CL A3 A4
            go_wp2_with (first | (simp only [BK1.out]) | (simp only [CV.out]))
            (with_reducible refine (AW.out _).mono ?_)
            rintro e w5 ⟨rfl, h5⟩
            have H5 := Lib.hid (h5)
            clear h5
            go_wp2_with fail
            go_ret
            exact ⟨rfl, bt HB.out H5.out⟩
          · have CV := Lib.hid (CL.out wr (Below.refl _ _))
            have e2 := beq_no c2
            have e2' : (q2.toList == s.toList) = false := by rw [← beq_toListBytes, e2]
            have d2 : ((a3 : Int) == (a4 : Int)) = false := by
              have : a3 ≠ a4 := fun h => c2 (s2 h)
              simp; omega
            have d2' : ((a3 : Int) != (a4 : Int)) = true := by
              have : a3 ≠ a4 := fun h => c2 (s2 h)
              simp; omega
            clear c2 s2 CL
            go_wp2_with (first | (simp only [BK1.out]) | (simp only [CV.out]))
            (with_reducible refine (A3.out _).mono ?_)
            rintro e w3 ⟨rfl, h3⟩
            have H3 := Lib.hid (h3)
            clear h3
            go_wp2_with fail
            (with_reducible refine (A4.out _).mono ?_)
            rintro e w4 ⟨rfl, h4⟩
            have H4 := Lib.hid (bt H3.out h4)
            clear h4 H3
            go_wp2_with fail
            (with_reducible refine (AW.out _).mono ?_)
            rintro e w5 ⟨rfl, h5⟩
            have H5 := Lib.hid (bt H4.out h5)
            clear h5 H4
            go_wp2_with fail
            go_ret
            exact ⟨rfl, bt HB.out H5.out⟩
        · have e1 := beq_no c1
          have e1' : (q1.toList == s.toList) = false := by rw [← beq_toListBytes, e1]
          have d1 : ((a1 : Int) == (a2 : Int)) = false := by
            have : a1 ≠ a2 := fun h => c1 (s1 h)
            simp; omega
          clear c1 s1
          go_wp2_with (simp only [BK1.out])
          (with_reducible refine (A1.out _).mono ?_)
          rintro e w1 ⟨rfl, h1⟩
          have H1 := Lib.hid (h1)
          clear h1
          go_wp2_with fail
          (with_reducible refine (A2.out _).mono ?_)
          rintro e w2 ⟨rfl, h2⟩
          have H2 := Lib.hid (bt H1.out h2)
          clear h2 H1
          by_cases c2 : q2 = s
          · have CV := Lib.hid (CL.out w2 H2.out)
            rw [c2] at CV
            clear c2 s2 CL A3 A4
            go_wp2_with (simp only [CV.out])
            (with_reducible refine (AW.out _).mono ?_)
            rintro e w5 ⟨rfl, h5⟩
            have H5 := Lib.hid (bt H2.out h5)
            clear h5 H2
            go_wp2_with fail
            go_ret
            exact ⟨rfl, bt HB.out H5.out⟩
          · have CV := Lib.hid (CL.out w2 H2.out)
            have e2 := beq_no c2
            have e2' : (q2.toList == s.toList) = false := by rw [← beq_toListBytes, e2]
            have d2 : ((a3 : Int) == (a4 : Int)) = false := by
              have : a3 ≠ a4 := fun h => c2 (s2 h)
              simp; omega
            have d2' : ((a3 : Int) != (a4 : Int)) = true := by
              have : a3 ≠ a4 := fun h => c2 (s2 h)
              simp; omega
            clear c2 s2 CL
            go_wp2_with (simp only [CV.out])
            (with_reducible refine (A3.out _).mono ?_)
            rintro e w3 ⟨rfl, h3⟩
            have H3 := Lib.hid (bt H2.out h3)
            clear h3 H2
            go_wp2_with fail
            (with_reducible refine (A4.out _).mono ?_)
            rintro e w4 ⟨rfl, h4⟩
            have H4 := Lib.hid (bt H3.out h4)
            clear h4 H3
            go_wp2_with fail
            (with_reducible refine (AW.out _).mono ?_)
            rintro e w5 ⟨rfl, h5⟩
            have H5 := Lib.hid (bt H4.out h5)
            clear h5 H4
            go_wp2_with fail
            go_ret
            exact ⟨rfl, bt HB.out H5.out⟩
      · have p1 : decide ((m : Int) < 32) = false := by simp; omega
        by_cases c1 : q1 = s
        · rw [c1] at BK1
          clear c1 s1 A1 A2
          by_cases c2 : q2 = s
          · have CV := Lib.hid (CL.out wr (Below.refl _ _))
            rw [c2] at CV
            clear c2 s2 CL A3 A4
            go_wp2_with (first | (simp only [BK1.out]) | (simp only [CV.out]))
            (with_reducible refine (AW.out _).mono ?_)
            rintro e w5 ⟨rfl, h5⟩
            have H5 := Lib.hid (h5)
            clear h5
            go_wp2_with fail
            go_ret
            exact ⟨rfl, bt HB.out H5.out⟩
          · have CV := Lib.hid (CL.out wr (Below.refl _ _))
            have e2 := beq_no c2
            have e2' : (q2.toList == s.toList) = false := by rw [← beq_toListBytes, e2]
            have d2 : ((a3 : Int) == (a4 : Int)) = false := by
              have : a3 ≠ a4 := fun h => c2 (s2 h)
              simp; omega
            have d2' : ((a3 : Int) != (a4 : Int)) = true := by
              have : a3 ≠ a4 := fun h => c2 (s2 h)
              simp; omega
            clear c2 s2 CL
            go_wp2_with (first | (simp only [BK1.out]) | (simp only [CV.out]))
            (with_reducible refine (A3.out _).mono ?_)
            rintro e w3 ⟨rfl, h3⟩
            have H3 := Lib.hid (h3)
            clear h3
            go_wp2_with fail
            (with_reducible refine (A4.out _).mono ?_)
            rintro e w4 ⟨rfl, h4⟩
            have H4 := Lib.hid (bt H3.out h4)
            clear h4 H3
            go_wp2_with fail
            (with_reducible refine (AW.out _).mono ?_)
            rintro e w5 ⟨rfl, h5⟩
            have H5 := Lib.hid (bt H4.out h5)
            clear h5 H4
            go_wp2_with fail
            go_ret
            exact ⟨rfl, bt HB.out H5.out⟩
        · have e1 := beq_no c1
          have e1' : (q1.toList == s.toList) = false := by rw [← beq_toListBytes, e1]
          have d1 : ((a1 : Int) == (a2 : Int)) = false := by
            have : a1 ≠ a2 := fun h => c1 (s1 h)
            simp; omega
          clear c1 s1
          go_wp2_with (simp only [BK1.out])
          (with_reducible refine (A1.out _).mono ?_)
          rintro e w1 ⟨rfl, h1⟩
          have H1 := Lib.hid (h1)
          clear h1
          go_wp2_with fail
          (with_reducible refine (A2.out _).mono ?_)
          rintro e w2 ⟨rfl, h2⟩
          have H2 := Lib.hid (bt H1.out h2)
          clear h2 H1
          by_cases c2 : q2 = s
          · have CV := Lib.hid (CL.out w2 H2.out)
            rw [c2] at CV
            clear c2 s2 CL A3 A4
            go_wp2_with (simp only [CV.out])
            (with_reducible refine (AW.out _).mono ?_)
            rintro e w5 ⟨rfl, h5⟩
            have H5 := Lib.hid (bt H2.out h5)
            clear h5 H2
            go_wp2_with fail
            go_ret
            exact ⟨rfl, bt HB.out H5.out⟩
          · have CV := Lib.hid (CL.out w2 H2.out)
            have e2 := beq_no c2
            have e2' : (q2.toList == s.toList) = false := by rw [← beq_toListBytes, e2]
            have d2 : ((a3 : Int) == (a4 : Int)) = false := by
              have : a3 ≠ a4 := fun h => c2 (s2 h)
              simp; omega
            have d2' : ((a3 : Int) != (a4 : Int)) = true := by
              have : a3 ≠ a4 := fun h => c2 (s2 h)
              simp; omega
            clear c2 s2 CL
            go_wp2_with (simp only [CV.out])
            (with_reducible refine (A3.out _).mono ?_)
            rintro e w3 ⟨rfl, h3⟩
            have H3 := Lib.hid (bt H2.out h3)
            clear h3 H2
            go_wp2_with fail
            (with_reducible refine (A4.out _).mono ?_)
            rintro e w4 ⟨rfl, h4⟩
            have H4 := Lib.hid (bt H3.out h4)
            clear h4 H3
            go_wp2_with fail
            (with_reducible refine (AW.out _).mono ?_)
            rintro e w5 ⟨rfl, h5⟩
            have H5 := Lib.hid (bt H4.out h5)
            clear h5 H4
            go_wp2_with fail
            go_ret
            exact ⟨rfl, bt HB.out H5.out⟩

theorem walk (s : ByteArray) (hs : s.size ≤ maxLen) (at' : Int) (hat : (Lit.int .i64 at').wf = true) (x : Int) (hx : (Lit.int .u32 x).wf = true) (w : World) :
    Calls Try.prog 6 #[.string s, .int .i64 at', .int .u32 x] w fun e w' => e = .returned (.bool true) ∧ Below w.heap.size w w' := by
  obtain ⟨b1, b2⟩ := bounds_u32 hx
  obtain ⟨X, rfl⟩ : ∃ X : Nat, x = (X : Int) := ⟨x.toNat, by omega⟩
  unfold maxLen at hs
  obtain ⟨n, hn⟩ : ∃ n, s.size = n := ⟨_, rfl⟩
  rw [hn] at hs
  have AW := Lib.hid (fun w => awake_any w)
  by_cases h0 : n = 0
  · have z0 : ((n : Int) == 0) = true := by simp; omega
    clear hx b1 b2
    go_enter Try.func6, Try.ntmps6
    go_wp2_with fail
    (with_reducible refine (AW.out _).mono ?_)
    rintro e w1 ⟨rfl, h1⟩
    go_wp2_with fail
    go_ret
    exact ⟨rfl, h1⟩
  · have z0 : ((n : Int) == 0) = false := by simp; omega
    by_cases h1 : 5000 < n
    · have z1 : decide ((5000 : Int) < (n : Int)) = true := by simp; omega
      clear hx b1 b2
      go_enter Try.func6, Try.ntmps6
      go_wp2_with fail
      (with_reducible refine (AW.out _).mono ?_)
      rintro e w1 ⟨rfl, h1⟩
      go_wp2_with fail
      go_ret
      exact ⟨rfl, h1⟩
    · have z1 : decide ((5000 : Int) < (n : Int)) = false := by simp; omega
      by_cases h2 : X = 0
      · have z2 : ((X : Int) == 0) = true := by simp; omega
        clear hx b1 b2
        go_enter Try.func6, Try.ntmps6
        go_wp2_with fail
        (with_reducible refine (AW.out _).mono ?_)
        rintro e w1 ⟨rfl, h1⟩
        go_wp2_with fail
        go_ret
        exact ⟨rfl, h1⟩
      · exact walk_ok s n hn (by omega) (by omega) at' hat X (by omega) h2 w

set_option maxRecDepth 100000 in
theorem lifted (os : Os) (started : os.Started) (H : Type) (enc : TypeId × Value → H) :
    ReturnsInHanded {} Try.checked os 6 .any (Rows.crcBurstsSpec.pre6 enc Try.prog Try.f6 Rows.crcBurstsRow.domain false) (Rows.crcBurstsSpec.post enc Try.prog Try.f6 false true false false) := by
  refine returnsInHanded_of_change (C := Try.checked) own started (by kernel_rfl) Try.func6
    (ChangeSpec.witness6 (enc := enc) (C := Try.checked) false ⟨#[], #[.string { data := #[] }, .int .i64 0, .int .u32 0], []⟩ 8 (by kernel_rfl) (by kernel_rfl) (by kernel_rfl) (by kernel_rfl)) ?_
  intro W base args ds gs before hval0 hW _ _
  have hval : ∀ (j : Nat) t v, Try.f6.params[j]? = some t → args[j]? = some v → Value.okWide Try.prog W .any base t v := hval0
  have hW' := hW
  obtain ⟨p, q, hA0, hV, rfl, hfz, hnd⟩ := hW
  have hA : DataW.TrodAll enc Try.prog W 0 (fun _ => true) true Try.f6.params.toList args.toList ds p := hA0
  rw [Try.params6] at hA hval
  obtain ⟨v0, vs0, d0, ds0, p0, q0, hargs, rfl, rfl, h0, r0⟩ := trodAll_cons hA
  obtain ⟨v1, vs1, d1, ds1, p1, q1, rfl, rfl, rfl, h1, r1⟩ := trodAll_cons r0
  obtain ⟨v2, vs2, d2, ds2, p2, q2, rfl, rfl, rfl, h2, r2⟩ := trodAll_cons r1
  obtain ⟨rfl, rfl, rfl⟩ := trodAll_nil r2
  obtain rfl : args = #[v0, v1, v2] := by cases args; simp_all
  obtain ⟨rfl, rfl⟩ := trodVars_none hV
  obtain ⟨a0, rfl, rfl, rfl, w0⟩ := ChangeMaps.open_string Try.underlying9 (hval 0 9 v0 rfl rfl) h0
  obtain ⟨a1, rfl, rfl, rfl, w1⟩ := open_int Try.underlying3 (hval 1 3 v1 rfl rfl) h1
  obtain ⟨a2, rfl, rfl, rfl, w2⟩ := open_int Try.underlying23 (hval 2 23 v2 rfl rfl) h2
  clear hA0 hval0
  simp only [List.append_nil] at hW'
  refine (walk a0 w0 a1 w1 a2 w2 W).mono fun e W' ⟨he, hg⟩ => ?_
  subst he
  exact ⟨_, rfl, post_of_below (pa := []) (pv := []) hW' (fun _ _ _ => trodAll_cons_mk (shut_bool Try.underlying4 _) trodAll_mk0) (fun sp _ => (trodAll_cons_mk (ChangeMaps.shut_string Try.underlying9 w0) (trodAll_cons_mk (shut_int Try.underlying3 w1) (trodAll_cons_mk (shut_int Try.underlying23 w2) trodAll_mk0)))) (fun _ _ => rfl) rfl
    hg (ok_one (by kernel_rfl) rfl (okWide_bool_mk Try.underlying4 _))⟩

theorem proved : Rows.CrcBurstsSaid :=
  OpenClaim.holds_of_wide 6 Try.f6 rfl rfl rfl rfl rfl rfl rfl ⟨rfl, rfl, rfl, rfl, rfl⟩ rfl rfl rfl rfl rfl (by kernel_rfl) Try.func6 (by kernel_rfl)
    (of_decide_eq_true (by kernel_rfl)) (by unfold Func.isWrapper; first | (rw [if_pos (by decide +kernel)]; kernel_rfl) | (rw [if_neg (by decide +kernel)]; exact ⟨rfl, rfl⟩))
    (fun os started H enc _ => lifted os started H enc)
#print axioms proved
end crcBursts
end Go.Proofs.Ytkgnhdggfeiheaa
