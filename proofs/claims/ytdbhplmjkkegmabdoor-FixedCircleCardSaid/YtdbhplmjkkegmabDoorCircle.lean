/- FixedCircle: for every part of a turn the symmetries of the program's sine and cosine hold exactly, both lie between -One and One, and their squares have a sum within 2^34 of 2^60. The condition: the package's table of coefficients starts as the program's text lays it (tied by the card). -/
import Derived.Test.YtdbhplmjkkegmabDoorLaid
import Derived.Test.YtdbhplmjkkegmabDoorCircMath
import Derived.Test.YtdbhplmjkkegmabDoorCards
import Derived.Test.YtdbhplmjkkegmabDoorTie
namespace Go.Proofs.YtdbhplmjkkegmabDoor
open Go.ChangeShapes Go.WideShapes Go.ChangeAt Go.RowKit
set_option linter.unusedVariables false

theorem bt {w a b : World} (h : Below w.heap.size w a) (k : Below a.heap.size a b) : Below w.heap.size w b := h.trans (k.mono h.size)
theorem near_yes (a b m : Int) (h1 : a - m ≤ b) (h2 : b - m ≤ a) (l1 : -9223372036854775808 ≤ a - m) (l2 : a - m ≤ 9223372036854775807) (l3 : -9223372036854775808 ≤ b - m) (l4 : b - m ≤ 9223372036854775807) (w : World) :
    Calls Tryd.prog 7 #[.int .i64 a, .int .i64 b, .int .i64 m] w fun e w' => e = .returned (.bool true) ∧ w = w' := by
  go_enter Tryd.func7, Tryd.ntmps7
  go_wp2
  go_ret
  exact ⟨rfl, rfl⟩

namespace Circ
theorem rise_zero : riseV 0 = 0 := by decide +kernel
theorem place_neg (t : Nat) (ht : t < 4294967296) : (place ((4294967296 - t) % 4294967296) = place t) := by
  unfold place
  split <;> split <;> omega
theorem sin_neg (t : Nat) (ht : t < 4294967296) : sinV ((4294967296 - t) % 4294967296) = -sinV t := by
  have p := place_neg t ht
  unfold sinV
  rw [p]
  by_cases z : t = 0 ∨ t = 2147483648
  · have pz : place t = 0 := by rcases z with rfl | rfl <;> rfl
    rw [pz, rise_zero]
    split <;> split <;> rfl
  · split <;> split <;> first | omega | simp
theorem place_half (t : Nat) (ht : t < 4294967296) : place ((t + 2147483648) % 4294967296) = place t := by
  unfold place
  split <;> split <;> omega
theorem sin_half (t : Nat) (ht : t < 4294967296) : sinV ((t + 2147483648) % 4294967296) = -sinV t := by
  have p := place_half t ht
  unfold sinV
  rw [p]
  split <;> split <;> first | omega | simp
theorem sin_mirror (t : Nat) (ht : t < 4294967296) : sinV ((1073741824 + 4294967296 - t) % 4294967296) = cosV t := by
  unfold cosV
  have u : (t + 1073741824) % 4294967296 < 4294967296 := Nat.mod_lt _ (by decide)
  have n := sin_neg _ u
  have nl : (4294967296 - (t + 1073741824) % 4294967296) % 4294967296 < 4294967296 := Nat.mod_lt _ (by decide)
  have h := sin_half _ nl
  rw [n, Int.neg_neg] at h
  rw [← h]
  exact congrArg sinV (by omega)
theorem cos_neg (t : Nat) (ht : t < 4294967296) : cosV ((4294967296 - t) % 4294967296) = cosV t := by
  rw [← sin_mirror t ht]
  unfold cosV
  exact congrArg sinV (by omega)
theorem place_quarter (t : Nat) (ht : t < 4294967296) : place ((t + 1073741824) % 4294967296) = 1073741824 - place t := by
  unfold place
  split <;> split <;> omega
theorem middle : (waveS 536870912 * waveS 536870912 + waveS 536870912 * waveS 536870912 - 1152921504606846976).natAbs ≤ 17179869184 := by decide +kernel
theorem rise_circle {p : Int} (h0 : 0 ≤ p) (h1 : p ≤ 1073741824) : (riseV p * riseV p + riseV (1073741824 - p) * riseV (1073741824 - p) - 1152921504606846976).natAbs ≤ 17179869184 := by
  unfold riseV
  by_cases a : p ≤ 536870912
  · rw [if_pos a]
    by_cases b : 1073741824 - p ≤ 536870912
    · have e : p = 536870912 := by omega
      subst e
      rw [if_pos b]
      exact middle
    · rw [if_neg b, show 1073741824 - (1073741824 - p) = p by omega]
      exact circle h0 a
  · rw [if_neg a, if_pos (by omega)]
    have := circle (r := 1073741824 - p) (by omega) (by omega)
    rw [Int.add_comm] at this
    exact this
theorem sum_circle (t : Nat) (ht : t < 4294967296) : (sinV t * sinV t + cosV t * cosV t - 1152921504606846976).natAbs ≤ 17179869184 := by
  have p := place_in t
  have r := rise_circle p.1 p.2
  have q := place_quarter t ht
  have sq : ∀ (a : Int) (c : Prop) [Decidable c], (if c then -a else a) * (if c then -a else a) = a * a := by
    intro a c _; by_cases h : c
    · rw [if_pos h]; exact Int.neg_mul_neg a a
    · rw [if_neg h]
  unfold cosV sinV
  rw [sq, sq, q]
  exact r
end Circ

set_option maxHeartbeats 4000000 in
theorem circle_nat (t : Nat) (ht : t < 4294967296) (w : World) (hs : Ser w) :
    Calls Tryd.prog 3 #[.int .u32 t] w fun e w' => e = .returned (.bool true) ∧ Below w.heap.size w w' := by
  have F1 := Lib.hid (fun w hs => sin_any t ht w hs)
  have F2 := Lib.hid (fun w hs => cos_any t ht w hs)
  obtain ⟨n, hn⟩ : ∃ n, (4294967296 - t) % 4294967296 = n := ⟨_, rfl⟩
  obtain ⟨h, hh⟩ : ∃ n, (t + 2147483648) % 4294967296 = n := ⟨_, rfl⟩
  obtain ⟨q, hq⟩ : ∃ n, (t + 1073741824) % 4294967296 = n := ⟨_, rfl⟩
  obtain ⟨m, hm⟩ : ∃ n, (1073741824 + 4294967296 - t) % 4294967296 = n := ⟨_, rfl⟩
  have F3 := Lib.hid (fun w hs => sin_any n (by omega) w hs)
  have F4 := Lib.hid (fun w hs => sin_any h (by omega) w hs)
  have F5 := Lib.hid (fun w hs => cos_any n (by omega) w hs)
  have F6 := Lib.hid (fun w hs => sin_any q (by omega) w hs)
  have F7 := Lib.hid (fun w hs => sin_any m (by omega) w hs)
  have g3 := Circ.sin_neg t ht
  have g4 := Circ.sin_half t ht
  have g5 := Circ.cos_neg t ht
  have g6 : sinV ((t + 1073741824) % 4294967296) = cosV t := rfl
  have g7 := Circ.sin_mirror t ht
  rw [hn] at g3 g5
  rw [hh] at g4
  rw [hq] at g6
  rw [hm] at g7
  rw [g3] at F3
  rw [g4] at F4
  rw [g5] at F5
  rw [g6] at F6
  rw [g7] at F7
  have sc := Circ.sum_circle t ht
  have s1 := sinV_in t
  have c1 : -1073741824 ≤ cosV t ∧ cosV t ≤ 1073741824 := sinV_in _
  have x3 : IntKind.u32.wrap (-(t : Int)) = (n : Int) := by rw [IntKind.wrap_u32]; omega
  have x4 : IntKind.u32.wrap ((t : Int) + 2147483648) = (h : Int) := by rw [IntKind.wrap_u32]; omega
  have x6 : IntKind.u32.wrap ((t : Int) + 1073741824) = (q : Int) := by rw [IntKind.wrap_u32]; omega
  have x7 : IntKind.u32.wrap (1073741824 - (t : Int)) = (m : Int) := by rw [IntKind.wrap_u32]; omega
  clear g3 g4 g5 g6 g7 hn hh hq hm
  generalize sinV t = s at *
  generalize cosV t = c at *
  obtain ⟨s0, s1⟩ := s1
  obtain ⟨c0, c1⟩ := c1
  have ss : (s * s).natAbs ≤ 1073741824 * 1073741824 := Circ.absmul (by omega) (by omega)
  have cc : (c * c).natAbs ≤ 1073741824 * 1073741824 := Circ.absmul (by omega) (by omega)
  obtain ⟨sq, hsq⟩ : ∃ q, s * s = q := ⟨_, rfl⟩
  obtain ⟨cq, hcq⟩ : ∃ q, c * c = q := ⟨_, rfl⟩
  rw [hsq] at ss sc
  rw [hcq] at cc sc
  have sq0 : -1152921504606846976 ≤ sq := by omega
  have sq1 : sq ≤ 1152921504606846976 := by omega
  have cq0 : -1152921504606846976 ≤ cq := by omega
  have cq1 : cq ≤ 1152921504606846976 := by omega
  have NY := Lib.hid (fun w => near_yes (sq + cq) 1152921504606846976 17179869184 (by omega) (by omega) (by omega) (by omega) (by omega) (by omega) w)
  clear ss cc sc
  have HS := Lib.hid hs
  have B := Below.refl w.heap.size w
  have d1 : decide (s < -1073741824) = false := by simp; omega
  have d2 : decide (1073741824 < s) = false := by simp; omega
  have d3 : decide (c < -1073741824) = false := by simp; omega
  have d4 : decide (1073741824 < c) = false := by simp; omega
  clear hs
  go_enter Tryd.func3, Tryd.ntmps3
  go_wp2_with fail
  refine (F1.out _ HS.out).mono ?_
  rintro e w' ⟨rfl, n1, rfl⟩
  go_wp2_with fail
  refine (F2.out _ (HS.out.drewN _)).mono ?_
  rintro e w' ⟨rfl, n2, rfl⟩
  go_wp2_with fail
  refine (F3.out _ (HS.out.drewN _)).mono ?_
  rintro e w' ⟨rfl, n3, rfl⟩
  go_wp2_with fail
  refine (F4.out _ (HS.out.drewN _)).mono ?_
  rintro e w' ⟨rfl, n4, rfl⟩
  go_wp2_with fail
  refine (F5.out _ (HS.out.drewN _)).mono ?_
  rintro e w' ⟨rfl, n5, rfl⟩
  go_wp2_with fail
  refine (F6.out _ (HS.out.drewN _)).mono ?_
  rintro e w' ⟨rfl, n6, rfl⟩
  go_wp2_with fail
  refine (F7.out _ (HS.out.drewN _)).mono ?_
  rintro e w' ⟨rfl, n7, rfl⟩
  go_wp2_with fail
  refine (NY.out _).mono ?_
  rintro e w' ⟨rfl, rfl⟩
  go_wp2_with fail
  refine (awake_any _ (HS.out.drewN _)).mono ?_
  rintro e w' ⟨rfl, hb⟩
  go_wp2_with fail
  go_ret
  exact ⟨rfl, bt (below_drewN (Below.refl _ _) _) hb⟩

theorem circle_walk (a : Int) (ha : (Lit.int .u32 a).wf = true) (w : World) (hs : Ser w) :
    Calls Tryd.prog 3 #[.int .u32 a] w fun e w' => e = .returned (.bool true) ∧ Below w.heap.size w w' := by
  have h1 := bounds_u32 ha
  obtain ⟨m, rfl⟩ := Int.eq_ofNat_of_zero_le h1.1
  exact circle_nat m (by omega) w hs

namespace fixedCircle
set_option maxRecDepth 100000 in
theorem lifted (os : Os) (started : os.Started) (H : Type) (enc : TypeId × Value → H) :
    ReturnsInHanded {} Tryd.checked os 3 .any (fun w args => (Rows.fixedCircleSpec.pre enc Tryd.prog Tryd.f3 [] false w args ∧ laidMetH Tryd.prog [("perigee/fixed.series", Rows.laid_perigee_fixed_series)] w) ∧ sizedMet enc Tryd.prog Tryd.f3 (OpenSpec.ofChange Rows.fixedCircleSpec) false w args)
      (Rows.fixedCircleSpec.post enc Tryd.prog Tryd.f3 false true false false) := by
  refine returnsInHanded_of_change_and (C := Tryd.checked) (X := fun w _ => laidMetH Tryd.prog [("perigee/fixed.series", Rows.laid_perigee_fixed_series)] w) (fun _ _ _ hh h => h.of_heap hh) own started (by kernel_rfl) Tryd.func3
    (ChangeSpec.witness_shaped (enc := enc) (C := Tryd.checked) (os := os) (X := fun w _ => laidMetH Tryd.prog [("perigee/fixed.series", Rows.laid_perigee_fixed_series)] w) false (World.doorLaid Tryd.prog 400 os) #[.int .u32 0] 8 rfl (World.shaped_of_RefB (by kernel_rfl) (by kernel_rfl)) (by kernel_rfl) (by kernel_rfl) (by kernel_rfl) (door_met os _)) ?_
  intro W base args ds gs before hval0 hW _ _ hL _
  have hval : ∀ (j : Nat) t v, Tryd.f3.params[j]? = some t → args[j]? = some v → Value.okWide Tryd.prog W .any base t v := hval0
  have hW' := hW
  obtain ⟨p, q, hA0, hV, rfl, hfz, hnd⟩ := hW
  have hA : DataW.TrodAll enc Tryd.prog W 0 (fun _ => true) true Tryd.f3.params.toList args.toList ds p := hA0
  rw [Tryd.params3] at hA hval
  obtain ⟨v0, vs0, d0, ds0, p0, q0, hargs, rfl, rfl, h0, r0⟩ := trodAll_cons hA
  obtain ⟨rfl, rfl, rfl⟩ := trodAll_nil r0
  obtain rfl : args = #[v0] := by cases args; simp_all
  obtain ⟨rfl, rfl⟩ := trodVars_none hV
  obtain ⟨a0, rfl, rfl, rfl, w0⟩ := open_int Tryd.underlying22 (hval 0 22 v0 rfl rfl) h0
  clear hA0 hval0
  simp only [List.append_nil] at hW'
  refine (circle_walk a0 w0 W (ser_of hL)).mono fun e W' ⟨he, hg⟩ => ?_
  subst he
  exact ⟨_, rfl, post_of_below (pa := []) (pv := []) hW' (fun _ _ _ => trodAll_cons_mk (shut_bool Tryd.underlying4 _) trodAll_mk0) (fun sp _ => (trodAll_cons_mk (shut_int Tryd.underlying22 w0) trodAll_mk0)) (fun _ _ => rfl) rfl
    hg (ok_one (by kernel_rfl) rfl (okWide_bool_mk Tryd.underlying4 _))⟩

theorem over : Rows.FixedCircleSaid :=
  OpenClaim.holds_of_wide 3 Tryd.f3 rfl rfl rfl rfl rfl rfl rfl ⟨rfl, rfl, rfl, rfl, rfl⟩ rfl rfl rfl rfl rfl (by kernel_rfl) Tryd.func3 (by kernel_rfl)
    (of_decide_eq_true (by kernel_rfl)) (by unfold Func.isWrapper; first | (rw [if_pos (by decide +kernel)]; kernel_rfl) | (rw [if_neg (by decide +kernel)]; exact ⟨rfl, rfl⟩))
    (fun os started H enc _ => lifted os started H enc)

theorem proved : Rows.FixedCircleCardSaid :=
  Claim7.holds_tied_plain_at .later [] [.data] true Rows.fixedCircleCard.stood.harness false
    over (fun _ h => by cases h) (by kernel_rfl) (fun _ h => by cases h) fixedCircle_row_tie rfl ⟨rfl, rfl⟩ (by kernel_rfl) rfl
    (fun f fn hf hfn => by
      obtain rfl : f = 3 := Option.some.inj ((show Tryd.prog.funcNamed "perigee/perigeelaw01.FixedCircle" = some 3 by kernel_rfl).symm.trans hf) |>.symm
      obtain rfl : fn = Tryd.f3 := (Option.some.inj (Tryd.func3.symm.trans hfn)).symm
      exact ⟨by kernel_rfl, fun j t ht => by
        have hall : (Tryd.f3.params.toList.all fun u => !Tryd.prog.wantsStandIn u) = true := by kernel_rfl
        have hm : t ∈ Tryd.f3.params.toList := by simpa using Array.mem_of_getElem? ht
        exact (show Tryd.prog.wantsStandIn t = false by simpa using List.all_eq_true.1 hall t hm)⟩)
    (by kernel_rfl)
#print axioms proved
end fixedCircle
end Go.Proofs.YtdbhplmjkkegmabDoor
