/- MarkerPeriod (closed): the sequence of layer 8 has the period of 255 bits and no lesser one. -/
import Derived.Test.YtlfnglinalmpjaaMkAwake
namespace Go.Proofs.Ytlfnglinalmpjaa
open Go.ChangeShapes Go.WideShapes Go.ChangeAt Go.RowKit
set_option linter.unusedVariables false

namespace markerPeriod
theorem byte_bits : ∀ s, s < 256 → ∀ r, r < 8 → (s / 2 ^ (7 - r)) % 2 = if r = 0 then s / 128 else if r = 1 then s / 64 % 2 else if r = 2 then s / 32 % 2 else if r = 3 then s / 16 % 2 else if r = 4 then s / 8 % 2 else if r = 5 then s / 4 % 2 else if r = 6 then s / 2 % 2 else s % 2 := by decide +kernel
theorem sq_bit (k r : Nat) (hr : r < 8) : Mk.sqb k / 2 ^ (7 - r) % 2 = Mk.prb (8 * k + r) := by
  rw [byte_bits _ (Mk.sqb_lt k) r hr]
  obtain ⟨a0, a1, a2, a3, a4, a5, a6, a7⟩ := Mk.sst_bits (8 * k)
  unfold Mk.sqb
  match r, hr with
  | 0, _ => exact a0
  | 1, _ => exact a1
  | 2, _ => exact a2
  | 3, _ => exact a3
  | 4, _ => exact a4
  | 5, _ => exact a5
  | 6, _ => exact a6
  | 7, _ => exact a7
set_option maxRecDepth 100000 in
theorem bit_any (X : ByteArray) (N : Nat) (hX : X.size = N) (hN : N ≤ 100000) (hx : ∀ j, j < N → (Gal.co X.data.toList j).toNat = Mk.sqb j) (i : Nat) (hi : i < 8 * N) (w : World) :
    Calls Try.prog 31 #[.string X, .int .i64 (i : Nat)] w fun e w' => e = .returned (.int .i64 (Mk.prb i : Nat)) ∧ w = w' := by
  obtain ⟨k, hk⟩ : ∃ k, i / 8 = k := ⟨_, rfl⟩
  obtain ⟨r, hr⟩ : ∃ r, i % 8 = r := ⟨_, rfl⟩
  obtain ⟨q, hq⟩ : ∃ q, 7 - r = q := ⟨_, rfl⟩
  have d1 : (i : Int) / 8 = (k : Int) := by omega
  have d2 : (i : Int) % 8 = (r : Int) := by omega
  have d3 : (i : Int).tmod 8 = (r : Int) := by rw [Int.tmod_eq_emod_of_nonneg (by omega)]; omega
  have d4 : (i : Int).tdiv 8 = (k : Int) := by rw [Int.tdiv_eq_ediv_of_nonneg (by omega)]; omega
  have e1 : IntKind.i64.wrap ((7 : Int) - (r : Int)) = (q : Int) := by rw [IntKind.wrap_i64]; omega
  have e2 : (7 : Int) - (r : Int) = (q : Int) := by omega
  have kX : k < X.size := by omega
  have bk := byte_co X k kX
  rw [hx k (by omega)] at bk
  have sb := sq_bit k r (by omega)
  rw [hq, show 8 * k + r = i by omega] at sb
  have y256 := Mk.sqb_lt k
  obtain ⟨y, hy⟩ : ∃ y, Mk.sqb k = y := ⟨_, rfl⟩
  rw [hy] at bk sb y256
  obtain ⟨z, hz⟩ : ∃ z, y / 2 ^ q = z := ⟨_, rfl⟩
  have zl : z ≤ y := by rw [← hz]; exact Nat.div_le_self _ _
  have s1 : (y : Int) / 2 ^ q = (z : Int) := by
    rw [← hz]
    simp
  rw [hz] at sb
  obtain ⟨b, hb⟩ : ∃ b, Mk.prb i = b := ⟨_, rfl⟩
  rw [hb] at sb ⊢
  have s2 : (z : Int) % 2 = (b : Int) := by omega
  have s3 : (z : Int).tmod 2 = (b : Int) := by rw [Int.tmod_eq_emod_of_nonneg (by omega)]; omega
  have q7 : q ≤ 7 := by omega
  clear hk hr hq hy hz sb hx hb
  go_enter Try.func31, Try.ntmps31
  go_wp2_with fail
  go_ret
  exact ⟨rfl, rfl⟩
/-- Do the first i bits come again p places on? -/
def al (p i : Nat) : Bool := (List.range i).all fun j => decide (Mk.prb j = Mk.prb (j + p))
theorem al_succ (p i : Nat) : al p (i + 1) = (al p i && decide (Mk.prb i = Mk.prb (i + p))) := by
  unfold al
  rw [List.range_succ, List.all_append]
  simp
theorem al_full (i : Nat) : al 255 i = true := by
  unfold al
  rw [List.all_eq_true]
  intro j _
  exact decide_eq_true (Mk.prb_period j).symm
theorem al_less (p i : Nat) (h0 : p ≠ 0) (h : p < 255) (hi : 8 ≤ i) : al p i = false := by
  obtain ⟨j, hj, hne⟩ := Mk.differs p h0 h
  unfold al
  rw [List.all_eq_false]
  exact ⟨j, by simp; omega, by simpa using hne⟩
set_option maxRecDepth 100000 in
set_option maxHeartbeats 1000000 in
theorem walk (w : World) : Calls Try.prog 8 #[] w fun e w' => e = .returned (.bool true) ∧ Below w.heap.size w w' := by
  have AW := Lib.hid (fun w => awake_any w)
  have SQ : Hid (∀ w, Calls Try.prog 10 #[.int .i64 128] w fun e w' => e = .returned (.tuple #[.string (seqS 128), .int .i64 0]) ∧ Below w.heap.size w w') := Lib.hid (fun w => psq_any 128 (by omega) w)
  have SX : (seqS 128).size = 128 := coefs_size _ _
  have SC : ∀ j, j < 128 → (Gal.co (seqS 128).data.toList j).toNat = Mk.sqb j := fun j hj => by
    unfold seqS
    show (Gal.co (Gal.coefs _ _) j).toNat = _
    rw [Gal.co_coefs, if_pos hj, sqv_nat]
  obtain ⟨X, hX⟩ : ∃ X, seqS 128 = X := ⟨_, rfl⟩
  rw [hX] at SQ SX SC
  have BI := Lib.hid (fun i (hi : i < 1024) w => bit_any X 128 SX (by omega) SC i (by omega) w)
  clear hX SC
  go_enter Try.func8, Try.ntmps8
  go_wp2_with fail
  (with_reducible refine (SQ.out _).mono ?_)
  rintro e w1 ⟨rfl, h1⟩
  have B1 := Lib.hid h1
  clear h1 SQ
  go_wp2_with fail
  go_loopw [3] (fun x wr => ∃ p : Nat, 1 ≤ p ∧ p ≤ 256 ∧ x = .int .i64 (p : Nat) ∧ wr = w1) (fun x _ => 256 - (intOf x).toNat)
  case atStart => exact ⟨1, by omega, by omega, rfl, rfl⟩
  case round =>
    obtain ⟨p, hp1, hp2, rfl, hw⟩ := hrel
    have HW := Lib.hid hw
    clear hw
    by_cases hlt : p ≤ 255
    · have t1 : decide ((p : Int) ≤ 255) = true := by simp; omega
      go_wp2_with fail
      go_loopw [4, 5] (fun b x w2 => ∃ i : Nat, i + p ≤ 1024 ∧ x = .int .i64 (i : Nat) ∧ b = .bool (al p i) ∧ w2 = w1) (fun _ x _ => 1024 - (intOf x).toNat)
      case atStart => exact ⟨0, by omega, rfl, rfl, HW.out⟩
      case round =>
        obtain ⟨i, hi, rfl, rfl, hw2⟩ := hrel
        have HW2 := Lib.hid hw2
        clear hw2
        obtain ⟨ip, hip⟩ : ∃ x, i + p = x := ⟨_, rfl⟩
        have e1 : (i : Int) + (p : Int) = (ip : Int) := by omega
        have e2 : IntKind.i64.wrap ((i : Int) + (p : Int)) = (ip : Int) := by rw [IntKind.wrap_i64]; omega
        by_cases hc : ip < 1024
        · have t2 : decide ((ip : Int) < 1024) = true := by simp; omega
          have NS := Lib.hid (al_succ p i)
          have BA := Lib.hid (fun w => BI.out i (by omega) w)
          have BB := Lib.hid (fun w => BI.out ip hc w)
          rw [hip] at NS
          obtain ⟨x, hx⟩ : ∃ x, Mk.prb i = x := ⟨_, rfl⟩
          obtain ⟨y, hy⟩ : ∃ y, Mk.prb ip = y := ⟨_, rfl⟩
          rw [hx] at BA NS
          rw [hy] at BB NS
          obtain ⟨b, hb⟩ : ∃ b, al p i = b := ⟨_, rfl⟩
          rw [hb] at NS ⊢
          have HIP := Lib.hid hip
          clear hx hy hb hip
          cases b with
          | false =>
            have N2 := Lib.hid (show al p (i + 1) = false by rw [NS.out]; rfl)
            clear NS
            go_wp2_with fail
            go_roundw
            case rel => exact ⟨i + 1, by have := HIP.out; omega, by go_num, by rw [N2.out], HW2.out⟩
            case measure => simp [intOf]; omega
          | true =>
            have N2 := Lib.hid (show al p (i + 1) = decide (x = y) by rw [NS.out]; rfl)
            obtain ⟨c, hcc⟩ : ∃ c, decide (x = y) = c := ⟨_, rfl⟩
            rw [hcc] at N2
            have t3 : ((x : Int) == (y : Int)) = c := by
              rw [← hcc]
              cases h : decide (x = y) with
              | true =>
                have := of_decide_eq_true h
                simp
                omega
              | false =>
                have := of_decide_eq_false h
                simp
                omega
            clear NS hcc
            go_wp2_with fail
            (with_reducible refine (BA.out _).mono ?_)
            rintro e w3 ⟨rfl, rfl⟩
            go_wp2_with fail
            (with_reducible refine (BB.out _).mono ?_)
            rintro e w3 ⟨rfl, rfl⟩
            go_wp2_with fail
            go_roundw
            case rel => exact ⟨i + 1, by have := HIP.out; omega, by go_num, by rw [N2.out], HW2.out⟩
            case measure => simp [intOf]; omega
        · have t2 : decide ((ip : Int) < 1024) = false := by simp; omega
          by_cases p5 : p = 255
          · have A5 := Lib.hid (show al p i = true by rw [p5]; exact al_full i)
            have t3 : ((p : Int) == 255) = true := by simp; omega
            rw [A5.out]
            clear hip
            go_wp2_with fail
            go_roundw
            case rel => exact ⟨p + 1, by omega, by omega, by go_num, HW2.out⟩
            case measure => simp [intOf]; omega
          · have A5 := Lib.hid (show al p i = false from al_less p i (by omega) (by omega) (by omega))
            have t3 : ((p : Int) == 255) = false := by simp; omega
            rw [A5.out]
            clear hip
            go_wp2_with fail
            go_roundw
            case rel => exact ⟨p + 1, by omega, by omega, by go_num, HW2.out⟩
            case measure => simp [intOf]; omega
    · have t1 : decide ((p : Int) ≤ 255) = false := by simp; omega
      go_wp2_with fail
      (with_reducible refine (AW.out _).mono ?_)
      rintro e w2 ⟨rfl, h2⟩
      have B2 := Lib.hid (bt B1.out (by rw [← HW.out]; exact h2))
      clear h2
      go_wp2_with fail
      go_ret
      exact ⟨rfl, B2.out⟩

set_option maxRecDepth 100000 in
theorem lifted (os : Os) (started : os.Started) (H : Type) (enc : TypeId × Value → H) :
    ReturnsInHanded {} Try.checked os 8 .any (Rows.markerPeriodSpec.pre6 enc Try.prog Try.f8 Rows.markerPeriodRow.domain false) (Rows.markerPeriodSpec.post enc Try.prog Try.f8 false true false false) := by
  refine returnsInHanded_of_change (C := Try.checked) own started (by kernel_rfl) Try.func8
    (ChangeSpec.witness6 (enc := enc) (C := Try.checked) false ⟨#[], #[], []⟩ 8 (by kernel_rfl) (by kernel_rfl) (by kernel_rfl) (by kernel_rfl)) ?_
  intro W base args ds gs before hval0 hW _ _
  have hval : ∀ (j : Nat) t v, Try.f8.params[j]? = some t → args[j]? = some v → Value.okWide Try.prog W .any base t v := hval0
  have hW' := hW
  obtain ⟨p, q, hA0, hV, rfl, hfz, hnd⟩ := hW
  have hA : DataW.TrodAll enc Try.prog W 0 (fun _ => true) true Try.f8.params.toList args.toList ds p := hA0
  rw [Try.params8] at hA hval
  obtain ⟨hargs, rfl, rfl⟩ := trodAll_nil hA
  obtain rfl : args = #[] := by cases args; simp_all
  obtain ⟨rfl, rfl⟩ := trodVars_none hV
  clear hA0 hval0
  simp only [List.append_nil] at hW'
  refine (walk  W).mono fun e W' ⟨he, hg⟩ => ?_
  subst he
  exact ⟨_, rfl, post_of_below (pa := []) (pv := []) hW' (fun _ _ _ => trodAll_cons_mk (shut_bool Try.underlying4 _) trodAll_mk0) (fun sp _ => trodAll_mk0) (fun _ _ => rfl) rfl
    hg (ok_one (by kernel_rfl) rfl (okWide_bool_mk Try.underlying4 _))⟩

theorem proved : Rows.MarkerPeriodSaid :=
  OpenClaim.holds_of_wide 8 Try.f8 rfl rfl rfl rfl rfl rfl rfl ⟨rfl, rfl, rfl, rfl, rfl⟩ rfl rfl rfl rfl rfl (by kernel_rfl) Try.func8 (by kernel_rfl)
    (of_decide_eq_true (by kernel_rfl)) (by unfold Func.isWrapper; first | (rw [if_pos (by decide +kernel)]; kernel_rfl) | (rw [if_neg (by decide +kernel)]; exact ⟨rfl, rfl⟩))
    (fun os started H enc _ => lifted os started H enc)
#print axioms proved
end markerPeriod
end Go.Proofs.Ytlfnglinalmpjaa
