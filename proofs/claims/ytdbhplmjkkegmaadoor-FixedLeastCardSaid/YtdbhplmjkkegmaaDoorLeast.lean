/- FixedLeast: of any two numbers below 2^30, the square of the root that the program yields is at most the number, and that of the next number is above it; for every input. The condition: the package's table of coefficients starts as the program's text lays it (tied by the card). -/
import Derived.Test.YtdbhplmjkkegmaaDoorLaid
import Derived.Test.YtdbhplmjkkegmaaDoorCards
import Derived.Test.YtdbhplmjkkegmaaDoorTie
namespace Go.Proofs.YtdbhplmjkkegmaaDoor
open Go.ChangeShapes Go.WideShapes Go.ChangeAt Go.RowKit
set_option linter.unusedVariables false

theorem bt {w a b : World} (h : Below w.heap.size w a) (k : Below a.heap.size a b) : Below w.heap.size w b := h.trans (k.mono h.size)
theorem ba {w a : World} (h : Below w.heap.size w a) (o : Obj) : Below w.heap.size w (a.alloc o) := h.alloc h.size o

set_option maxHeartbeats 4000000 in
theorem least_nat (a b : Nat) (ha : a < 4294967296) (hb : b < 4294967296) (w : World) (hs : Ser w) :
    Calls Tryd.prog 8 #[.int .u32 a, .int .u32 b] w fun e w' => e = .returned (.bool true) ∧ Below w.heap.size w w' := by
  obtain ⟨x, hx⟩ : ∃ x, a % 1073741824 = x := ⟨_, rfl⟩
  obtain ⟨y, hy⟩ : ∃ y, b % 1073741824 = y := ⟨_, rfl⟩
  have xl : x < 1073741824 := by omega
  have yl : y < 1073741824 := by omega
  have ex : (a : Int) % 1073741824 = (x : Int) := by omega
  have ey : (b : Int) % 1073741824 = (y : Int) := by omega
  obtain ⟨xx, hxx⟩ : ∃ q, x * x = q := ⟨_, rfl⟩
  obtain ⟨yy, hyy⟩ : ∃ q, y * y = q := ⟨_, rfl⟩
  have xxl : xx ≤ 1073741824 * 1073741824 := by rw [← hxx]; exact Nat.mul_le_mul (by omega) (by omega)
  have yyl : yy ≤ 1073741824 * 1073741824 := by rw [← hyy]; exact Nat.mul_le_mul (by omega) (by omega)
  have sx : Fix.sumsq [(x : Int), -(y : Int)] = xx + yy := by simp [Fix.sumsq, hxx, hyy]
  obtain ⟨n, hn⟩ : ∃ n, Fix.sq (xx + yy) = n := ⟨_, rfl⟩
  obtain ⟨s, hs'⟩ : ∃ n, Fix.sq (x * 1073741824) = n := ⟨_, rfl⟩
  have nl : n < 2147483648 := by rw [← hn]; exact Fix.sq_lt (by omega)
  have sl : s < 2147483648 := by rw [← hs']; exact Fix.sq_lt (by omega)
  have nok := Fix.sq_ok (xx + yy)
  have sok := Fix.sq_ok (x * 1073741824)
  rw [hn] at nok
  rw [hs'] at sok
  obtain ⟨nn, hnn⟩ : ∃ q, n * n = q := ⟨_, rfl⟩
  obtain ⟨n1, hn1⟩ : ∃ q, (n + 1) * (n + 1) = q := ⟨_, rfl⟩
  obtain ⟨ss, hss⟩ : ∃ q, s * s = q := ⟨_, rfl⟩
  obtain ⟨s1, hs1⟩ : ∃ q, (s + 1) * (s + 1) = q := ⟨_, rfl⟩
  rw [hnn, hn1] at nok
  rw [hss, hs1] at sok
  have n1l : n1 ≤ 2147483648 * 2147483648 := by rw [← hn1]; exact Nat.mul_le_mul (by omega) (by omega)
  have s1l : s1 ≤ 2147483648 * 2147483648 := by rw [← hs1]; exact Nat.mul_le_mul (by omega) (by omega)
  obtain ⟨no1, no2⟩ := nok
  obtain ⟨so1, so2⟩ := sok
  have H := Lib.hid (fun b w h => hypot_any (some ⟨b, 0, none⟩) 2 2 [(x : Int), -(y : Int)] w h (fun k hk => by
    match k, hk with
    | 0, _ => exact ⟨by show _ ≤ (x : Int); omega, by show (x : Int) ≤ _; omega⟩
    | 1, _ => exact ⟨by show _ ≤ -(y : Int); omega, by show -(y : Int) ≤ _; omega⟩))
  have hv : Fix.hypV [(x : Int), -(y : Int)] = (n : Int) ∧ Fix.hypE [(x : Int), -(y : Int)] = 0 := by
    have l : xx + yy < Fix.big := by unfold Fix.big; omega
    unfold Fix.hypV Fix.hypE
    rw [sx, if_pos l, if_pos l, hn]
    simp
  rw [hv.1, hv.2] at H
  have S := Lib.hid (fun w => sqrt_pos x (by omega) w)
  rw [hs'] at S
  have e1 : (x : Int) * (x : Int) = (xx : Int) := by rw [← hxx]; simp
  have e2 : (y : Int) * (y : Int) = (yy : Int) := by rw [← hyy]; simp
  have e3 : (n : Int) * (n : Int) = (nn : Int) := by rw [← hnn]; simp
  have e4 : ((n : Int) + 1) * ((n : Int) + 1) = (n1 : Int) := by rw [← hn1]; simp
  have e5 : (s : Int) * (s : Int) = (ss : Int) := by rw [← hss]; simp
  have e6 : ((s : Int) + 1) * ((s : Int) + 1) = (s1 : Int) := by rw [← hs1]; simp
  have i1 : (nn : Int) ≤ (xx : Int) + (yy : Int) := by omega
  have i2 : (xx : Int) + (yy : Int) < (n1 : Int) := by omega
  have i3 : (ss : Int) ≤ (x : Int) * 1073741824 := by omega
  have i4 : (x : Int) * 1073741824 < (s1 : Int) := by omega
  have i5 : (n : Int) < 2147483648 := by omega
  have i6 : (s : Int) < 2147483648 := by omega
  have HS := Lib.hid hs
  have B := Below.refl w.heap.size w
  clear hs hv hx hy hxx hyy hnn hn1 hss hs1 hn hs' sx
  go_enter Tryd.func8, Tryd.ntmps8
  go_wp2_with fail
  refine (H.out w.heap.size _ ?_).mono ?_
  · exact ⟨rfl, by omega, Or.inr ⟨_, 0, rfl, fun k hk => by
      match k, hk with
      | 0, _ => simp [go_sem]
      | 1, _ => simp [go_sem]⟩⟩
  rintro e w1 ⟨rfl, rfl⟩
  go_wp2_with fail
  refine (S.out _).mono ?_
  rintro e w1 ⟨rfl, rfl⟩
  go_wp2_with fail
  refine (awake_any _ (HS.out.below (ba B _))).mono ?_
  rintro e w1 ⟨rfl, h⟩
  go_wp2_with fail
  go_ret
  exact ⟨rfl, bt (ba B _) h⟩

theorem least_walk (a b : Int) (ha : (Lit.int .u32 a).wf = true) (hb : (Lit.int .u32 b).wf = true) (w : World) (hs : Ser w) :
    Calls Tryd.prog 8 #[.int .u32 a, .int .u32 b] w fun e w' => e = .returned (.bool true) ∧ Below w.heap.size w w' := by
  have h1 := bounds_u32 ha
  have h2 := bounds_u32 hb
  obtain ⟨m, rfl⟩ := Int.eq_ofNat_of_zero_le h1.1
  obtain ⟨n, rfl⟩ := Int.eq_ofNat_of_zero_le h2.1
  exact least_nat m n (by omega) (by omega) w hs

namespace fixedLeast
set_option maxRecDepth 100000 in
theorem lifted (os : Os) (started : os.Started) (H : Type) (enc : TypeId × Value → H) :
    ReturnsInHanded {} Tryd.checked os 8 .any (fun w args => (Rows.fixedLeastSpec.pre enc Tryd.prog Tryd.f8 [] false w args ∧ laidMetH Tryd.prog [("perigee/fixed.series", Rows.laid_perigee_fixed_series)] w) ∧ sizedMet enc Tryd.prog Tryd.f8 (OpenSpec.ofChange Rows.fixedLeastSpec) false w args)
      (Rows.fixedLeastSpec.post enc Tryd.prog Tryd.f8 false true false false) := by
  refine returnsInHanded_of_change_and (C := Tryd.checked) (X := fun w _ => laidMetH Tryd.prog [("perigee/fixed.series", Rows.laid_perigee_fixed_series)] w) (fun _ _ _ hh h => h.of_heap hh) own started (by kernel_rfl) Tryd.func8
    (ChangeSpec.witness_shaped (enc := enc) (C := Tryd.checked) (os := os) (X := fun w _ => laidMetH Tryd.prog [("perigee/fixed.series", Rows.laid_perigee_fixed_series)] w) false (World.doorLaid Tryd.prog 400 os) #[.int .u32 0, .int .u32 0] 8 rfl (World.shaped_of_RefB (by kernel_rfl) (by kernel_rfl)) (by kernel_rfl) (by kernel_rfl) (by kernel_rfl) (door_met os _)) ?_
  intro W base args ds gs before hval0 hW _ _ hL _
  have hval : ∀ (j : Nat) t v, Tryd.f8.params[j]? = some t → args[j]? = some v → Value.okWide Tryd.prog W .any base t v := hval0
  have hW' := hW
  obtain ⟨p, q, hA0, hV, rfl, hfz, hnd⟩ := hW
  have hA : DataW.TrodAll enc Tryd.prog W 0 (fun _ => true) true Tryd.f8.params.toList args.toList ds p := hA0
  rw [Tryd.params8] at hA hval
  obtain ⟨v0, vs0, d0, ds0, p0, q0, hargs, rfl, rfl, h0, r0⟩ := trodAll_cons hA
  obtain ⟨v1, vs1, d1, ds1, p1, q1, rfl, rfl, rfl, h1, r1⟩ := trodAll_cons r0
  obtain ⟨rfl, rfl, rfl⟩ := trodAll_nil r1
  obtain rfl : args = #[v0, v1] := by cases args; simp_all
  obtain ⟨rfl, rfl⟩ := trodVars_none hV
  obtain ⟨a0, rfl, rfl, rfl, w0⟩ := open_int Tryd.underlying36 (hval 0 36 v0 rfl rfl) h0
  obtain ⟨a1, rfl, rfl, rfl, w1⟩ := open_int Tryd.underlying36 (hval 1 36 v1 rfl rfl) h1
  clear hA0 hval0
  simp only [List.append_nil] at hW'
  refine (least_walk a0 a1 w0 w1 W (ser_of hL)).mono fun e W' ⟨he, hg⟩ => ?_
  subst he
  exact ⟨_, rfl, post_of_below (pa := []) (pv := []) hW' (fun _ _ _ => trodAll_cons_mk (shut_bool Tryd.underlying4 _) trodAll_mk0) (fun sp _ => (trodAll_cons_mk (shut_int Tryd.underlying36 w0) (trodAll_cons_mk (shut_int Tryd.underlying36 w1) trodAll_mk0))) (fun _ _ => rfl) rfl
    hg (ok_one (by kernel_rfl) rfl (okWide_bool_mk Tryd.underlying4 _))⟩

theorem over : Rows.FixedLeastSaid :=
  OpenClaim.holds_of_wide 8 Tryd.f8 rfl rfl rfl rfl rfl rfl rfl ⟨rfl, rfl, rfl, rfl, rfl⟩ rfl rfl rfl rfl rfl (by kernel_rfl) Tryd.func8 (by kernel_rfl)
    (of_decide_eq_true (by kernel_rfl)) (by unfold Func.isWrapper; first | (rw [if_pos (by decide +kernel)]; kernel_rfl) | (rw [if_neg (by decide +kernel)]; exact ⟨rfl, rfl⟩))
    (fun os started H enc _ => lifted os started H enc)

theorem proved : Rows.FixedLeastCardSaid :=
  Claim7.holds_tied_plain_at .later [] [.data] true Rows.fixedLeastCard.stood.harness false
    over (fun _ h => by cases h) (by kernel_rfl) (fun _ h => by cases h) fixedLeast_row_tie rfl ⟨rfl, rfl⟩ (by kernel_rfl) rfl
    (fun f fn hf hfn => by
      obtain rfl : f = 8 := Option.some.inj ((show Tryd.prog.funcNamed "perigee/perigeelaw01.FixedLeast" = some 8 by kernel_rfl).symm.trans hf) |>.symm
      obtain rfl : fn = Tryd.f8 := (Option.some.inj (Tryd.func8.symm.trans hfn)).symm
      exact ⟨by kernel_rfl, fun j t ht => by
        have hall : (Tryd.f8.params.toList.all fun u => !Tryd.prog.wantsStandIn u) = true := by kernel_rfl
        have hm : t ∈ Tryd.f8.params.toList := by simpa using Array.mem_of_getElem? ht
        exact (show Tryd.prog.wantsStandIn t = false by simpa using List.all_eq_true.1 hall t hm)⟩)
    (by kernel_rfl)
#print axioms proved
end fixedLeast
end Go.Proofs.YtdbhplmjkkegmaaDoor
