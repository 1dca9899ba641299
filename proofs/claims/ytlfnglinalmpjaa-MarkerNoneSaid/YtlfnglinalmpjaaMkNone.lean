/- MarkerNone: a finder of layer 8 that is nil or was not returned by New takes nothing, and there is none of a wrong length, for every input. -/
import Derived.Test.YtlfnglinalmpjaaMkAwake
namespace Go.Proofs.Ytlfnglinalmpjaa
open Go.ChangeShapes Go.WideShapes Go.ChangeAt Go.RowKit
set_option linter.unusedVariables false

namespace markerNone
theorem cells_int' : Try.prog.cellsOf 3 = 1 := by kernel_rfl
theorem nfeed_nil (a : Option Addr) (n c : Nat) (w : World) : Calls Try.prog 22 #[.pointer none, .slice a n c] w fun e w' => e = .returned (.tuple #[.slice none 0 0, .int .i64 1]) ∧ w' = w := by
  have MD := Lib.hid (made_nil w)
  go_enter Try.func22, Try.ntmps22
  go_wp2_with fail
  (with_reducible refine (MD.out).mono ?_)
  rintro e w1 ⟨rfl, rfl⟩
  go_wp2_with fail
  go_ret2
  exact ⟨rfl, rfl⟩
theorem nlocked_nil (w : World) : Calls Try.prog 26 #[.pointer none] w fun e w' => e = .returned (.bool false) ∧ w' = w := by
  have MD := Lib.hid (made_nil w)
  go_enter Try.func26, Try.ntmps26
  go_wp2_with fail
  (with_reducible refine (MD.out).mono ?_)
  rintro e w1 ⟨rfl, rfl⟩
  go_wp2_with fail
  go_ret
  exact ⟨rfl, rfl⟩
theorem nat_nil (w : World) : Calls Try.prog 27 #[.pointer none] w fun e w' => e = .returned (.int .i64 0) ∧ w' = w := by
  have MD := Lib.hid (made_nil w)
  go_enter Try.func27, Try.ntmps27
  go_wp2_with fail
  (with_reducible refine (MD.out).mono ?_)
  rintro e w1 ⟨rfl, rfl⟩
  go_wp2_with fail
  go_ret
  exact ⟨rfl, rfl⟩
theorem nfeed_empty (P : Nat) (a : Option Addr) (n c : Nat) (w : World) (c3 : w.cell? ⟨P, 3, none⟩ = some (.pointer none)) : Calls Try.prog 22 #[.pointer (some ⟨P, 0, none⟩), .slice a n c] w fun e w' => e = .returned (.tuple #[.slice none 0 0, .int .i64 1]) ∧ w' = w := by
  have MD := Lib.hid (made_empty P w c3)
  go_enter Try.func22, Try.ntmps22
  go_wp2_with fail
  (with_reducible refine (MD.out).mono ?_)
  rintro e w1 ⟨rfl, rfl⟩
  go_wp2_with fail
  go_ret2
  exact ⟨rfl, rfl⟩
theorem nlocked_empty (P : Nat) (w : World) (c3 : w.cell? ⟨P, 3, none⟩ = some (.pointer none)) : Calls Try.prog 26 #[.pointer (some ⟨P, 0, none⟩)] w fun e w' => e = .returned (.bool false) ∧ w' = w := by
  have MD := Lib.hid (made_empty P w c3)
  go_enter Try.func26, Try.ntmps26
  go_wp2_with fail
  (with_reducible refine (MD.out).mono ?_)
  rintro e w1 ⟨rfl, rfl⟩
  go_wp2_with fail
  go_ret
  exact ⟨rfl, rfl⟩
theorem nat_empty (P : Nat) (w : World) (c3 : w.cell? ⟨P, 3, none⟩ = some (.pointer none)) : Calls Try.prog 27 #[.pointer (some ⟨P, 0, none⟩)] w fun e w' => e = .returned (.int .i64 0) ∧ w' = w := by
  have MD := Lib.hid (made_empty P w c3)
  go_enter Try.func27, Try.ntmps27
  go_wp2_with fail
  (with_reducible refine (MD.out).mono ?_)
  rintro e w1 ⟨rfl, rfl⟩
  go_wp2_with fail
  go_ret
  exact ⟨rfl, rfl⟩
theorem both_new (n : Int) : (∃ c, (c = 2) ∧ (n < 1 ∨ 20000 < n) ∧ ∀ w, Calls Try.prog 17 #[.int .i64 n] w fun e w' => e = .returned (.tuple #[.pointer none, .int .i64 c]) ∧ Below w.heap.size w w') ∨ (1 ≤ n ∧ n ≤ 20000 ∧ ∀ w, Calls Try.prog 17 #[.int .i64 n] w fun e w' => ∃ P, e = .returned (.tuple #[.pointer (some P), .int .i64 0]) ∧ Below w.heap.size w w') := by
  by_cases h : n < 1 ∨ 20000 < n
  · exact .inl ⟨2, rfl, h, fun w => pnew_no n h w⟩
  · obtain ⟨m, rfl⟩ : ∃ m : Nat, n = (m : Int) := ⟨n.toNat, by omega⟩
    exact .inr ⟨by omega, by omega, fun w => (pnew_any m (by omega) (by omega) w).mono (fun e w' ⟨_, P, h1, _, _, h4⟩ => ⟨P, h1, h4⟩)⟩
set_option maxRecDepth 100000 in
set_option maxHeartbeats 2000000 in
theorem walk (ap : Option Addr) (pc : Nat) (ps : List Int) (hpl : ps.length ≤ pc) (hpm : pc ≤ maxLen) (hpw : ∀ n ∈ ps, (Lit.int .i64 n).wf = true) (n : Int) (hn : (Lit.int .i64 n).wf = true) (w : World) (RP : Reads .i64 w ap ps) :
    Calls Try.prog 7 #[.slice ap ps.length pc, .int .i64 n] w fun e w' => e = .returned (.bool true) ∧ Below w.heap.size w w' := by
  have AW := Lib.hid (fun w => awake_any w)
  obtain ⟨N, hN⟩ : ∃ N, ps.length = N := ⟨_, rfl⟩
  rw [hN] at hpl ⊢
  clear hpw hn RP hN
  by_cases h1 : 1000 < N
  · have t1 : decide ((1000 : Int) < (N : Int)) = true := by simp; omega
    go_enter Try.func7, Try.ntmps7
    go_wp2_with fail
    (with_reducible refine (AW.out _).mono ?_)
    rintro e w1 ⟨rfl, h1⟩
    go_wp2_with fail
    go_ret
    exact ⟨rfl, h1⟩
  have t1 : decide ((1000 : Int) < (N : Int)) = false := by simp; omega
  obtain ⟨wA, hwA⟩ : ∃ wA, w.alloc (.cells #[.int .i64 0, .bool false, .int .i64 0, .pointer none, .int .i64 0, .slice none 0 0, .nilFunc] 63) = wA := ⟨_, rfl⟩
  obtain ⟨P, hP⟩ : ∃ P, w.heap.size = P := ⟨_, rfl⟩
  obtain ⟨wB, hwB⟩ : ∃ wB, wA.alloc (.cells #[.pointer none, .pointer (some ⟨P, 0, none⟩)] 31) = wB := ⟨_, rfl⟩
  obtain ⟨A, hA⟩ : ∃ A, wA.heap.size = A := ⟨_, rfl⟩
  have BA : Below w.heap.size w wA := hwA ▸ ba (Below.refl _ _) _
  have BB : Below wA.heap.size wA wB := hwB ▸ ba (Below.refl _ _) _
  have cA : wA.cell? ⟨P, 3, none⟩ = some (.pointer none) := by
    rw [← hwA, ← hP, World.cell?_alloc_new]
    rfl
  have PA : P < wA.heap.size := by
    rw [← hwA, World.size_alloc]
    omega
  have C3 := Lib.hid ((BB.cell (p := ⟨P, 3, none⟩) PA).trans cA)
  have a0 : wB.cell? ⟨A, 0, none⟩ = some (.pointer none) := by
    rw [← hwB, ← hA, World.cell?_alloc_new]
    rfl
  have a1 : wB.cell? ⟨A, 1, none⟩ = some (.pointer (some ⟨P, 0, none⟩)) := by
    rw [← hwB, ← hA, World.cell?_alloc_new]
    rfl
  have B0 := Lib.hid (bt BA BB)
  have HA := Lib.hid hwA
  have HB := Lib.hid hwB
  have HP := Lib.hid hP
  have HAA := Lib.hid hA
  have B0 := Lib.hid (show Below w.heap.size w wB from bt BA BB)
  clear hwA hwB hP hA BA BB cA PA
  go_enter Try.func7, Try.ntmps7
  go_wp2_with (simp only [HA.out, HB.out, HP.out, HAA.out])
  refine wp_loop_rounds 3 ?_
  rw [rounds_succ]
  go_wp2_with fail
  have NF := Lib.hid (nfeed_nil ap N pc wB)
  have NL := Lib.hid (nlocked_nil wB)
  have NA := Lib.hid (nat_nil wB)
  have EF := Lib.hid (nfeed_empty P ap N pc wB C3.out)
  have EL := Lib.hid (nlocked_empty P wB C3.out)
  have EA := Lib.hid (nat_empty P wB C3.out)
  have NW := Lib.hid (both_new n)
  have EN := Lib.hid (fun O w => (neq_not O w))
  (with_reducible refine (NF.out).mono ?_)
  rintro e w2 ⟨rfl, rfl⟩
  go_wp2_with fail
  (with_reducible refine (NL.out).mono ?_)
  rintro e w2 ⟨rfl, rfl⟩
  go_wp2_with fail
  (with_reducible refine (NA.out).mono ?_)
  rintro e w2 ⟨rfl, rfl⟩
  go_wp2_with fail
  rw [rounds_succ]
  go_wp2_with fail
  (with_reducible refine (EF.out).mono ?_)
  rintro e w2 ⟨rfl, rfl⟩
  go_wp2_with fail
  (with_reducible refine (EL.out).mono ?_)
  rintro e w2 ⟨rfl, rfl⟩
  go_wp2_with fail
  (with_reducible refine (EA.out).mono ?_)
  rintro e w2 ⟨rfl, rfl⟩
  go_wp2_with fail
  rw [rounds_succ]
  go_wp2_with fail
  clear NF NL NA EF EL EA C3 a0 a1
  rcases NW.out with ⟨c, rfl, hn, hc⟩ | ⟨g1, g2, hc⟩
  · (with_reducible refine (hc _).mono ?_)
    rintro e w2 ⟨rfl, h2⟩
    have B2 := Lib.hid (bt B0.out h2)
    clear h2 hc NW
    by_cases g : n < 1
    · have t2 : decide ((1 : Int) ≤ n) = false := by simp; omega
      go_wp2_with fail
      (with_reducible refine (AW.out _).mono ?_)
      rintro e w3 ⟨rfl, h3⟩
      have B3 := Lib.hid (bt B2.out h3)
      clear h3
      go_wp2_with fail
      go_ret
      exact ⟨rfl, B3.out⟩
    · have t2 : decide ((1 : Int) ≤ n) = true := by simp; omega
      have t3 : decide (n ≤ 20000) = false := by simp; omega
      go_wp2_with fail
      (with_reducible refine (AW.out _).mono ?_)
      rintro e w3 ⟨rfl, h3⟩
      have B3 := Lib.hid (bt B2.out h3)
      clear h3
      go_wp2_with fail
      go_ret
      exact ⟨rfl, B3.out⟩
  · (with_reducible refine (hc _).mono ?_)
    rintro e w2 ⟨O, rfl, h2⟩
    have B2 := Lib.hid (bt B0.out h2)
    have t2 : decide ((1 : Int) ≤ n) = true := by simp; omega
    have t3 : decide (n ≤ 20000) = true := by simp; omega
    have t4 := EN.out O w2
    clear h2 hc NW
    go_wp2_with fail
    (with_reducible refine (AW.out _).mono ?_)
    rintro e w3 ⟨rfl, h3⟩
    have B3 := Lib.hid (bt B2.out h3)
    clear h3
    go_wp2_with fail
    go_ret
    exact ⟨rfl, B3.out⟩

set_option maxRecDepth 100000 in
theorem lifted (os : Os) (started : os.Started) (H : Type) (enc : TypeId × Value → H) :
    ReturnsInHanded {} Try.checked os 7 .any (Rows.markerNoneSpec.pre6 enc Try.prog Try.f7 Rows.markerNoneRow.domain false) (Rows.markerNoneSpec.post enc Try.prog Try.f7 false true false false) := by
  refine returnsInHanded_of_change (C := Try.checked) own started (by kernel_rfl) Try.func7
    (ChangeSpec.witness6 (enc := enc) (C := Try.checked) false ⟨#[], #[.slice none 0 0, .int .i64 0], []⟩ 8 (by kernel_rfl) (by kernel_rfl) (by kernel_rfl) (by kernel_rfl)) ?_
  intro W base args ds gs before hval0 hW _ _
  have hval : ∀ (j : Nat) t v, Try.f7.params[j]? = some t → args[j]? = some v → Value.okWide Try.prog W .any base t v := hval0
  have hW' := hW
  obtain ⟨p, q, hA0, hV, rfl, hfz, hnd⟩ := hW
  have hA : DataW.TrodAll enc Try.prog W 0 (fun _ => true) true Try.f7.params.toList args.toList ds p := hA0
  rw [Try.params7] at hA hval
  obtain ⟨v0, vs0, d0, ds0, p0, q0, hargs, rfl, rfl, h0, r0⟩ := trodAll_cons hA
  obtain ⟨v1, vs1, d1, ds1, p1, q1, rfl, rfl, rfl, h1, r1⟩ := trodAll_cons r0
  obtain ⟨rfl, rfl, rfl⟩ := trodAll_nil r1
  obtain rfl : args = #[v0, v1] := by cases args; simp_all
  obtain ⟨rfl, rfl⟩ := trodVars_none hV
  obtain ⟨x0, y0, z0, e0⟩ := okWide_slice Try.underlying29 (hval 0 29 v0 rfl rfl)
  obtain ⟨zs0, S0⟩ := slice_arg (k := .i64) Try.underlying29 Try.underlying3 cells_int' (by rw [e0]; rfl) h0
  clear e0
  obtain ⟨⟨ao0, cap0, rfl, l0, m0, R0⟩, w0, shut0⟩ := S0
  obtain ⟨a1, rfl, rfl, rfl, w1⟩ := open_int Try.underlying3 (hval 1 3 v1 rfl rfl) h1
  clear hA0 hval0
  simp only [List.append_nil] at hW'
  refine (walk ao0 cap0 zs0 l0 m0 w0 a1 w1 W R0).mono fun e W' ⟨he, hg⟩ => ?_
  subst he
  exact ⟨_, rfl, post_of_below (pa := (p0 ++ ([] ++ []))) (pv := []) hW' (fun _ _ _ => trodAll_cons_mk (shut_bool Try.underlying4 _) trodAll_mk0) (fun sp hsp => (trodAll_cons_mk (shut0 W' hg sp (fun q hq => hsp q (by simp [hq]))) (trodAll_cons_mk (shut_int Try.underlying3 w1) trodAll_mk0))) (fun _ _ => rfl) (by simp)
    hg (ok_one (by kernel_rfl) rfl (okWide_bool_mk Try.underlying4 _))⟩

theorem proved : Rows.MarkerNoneSaid :=
  OpenClaim.holds_of_wide 7 Try.f7 rfl rfl rfl rfl rfl rfl rfl ⟨rfl, rfl, rfl, rfl, rfl⟩ rfl rfl rfl rfl rfl (by kernel_rfl) Try.func7 (by kernel_rfl)
    (of_decide_eq_true (by kernel_rfl)) (by unfold Func.isWrapper; first | (rw [if_pos (by decide +kernel)]; kernel_rfl) | (rw [if_neg (by decide +kernel)]; exact ⟨rfl, rfl⟩))
    (fun os started H enc _ => lifted os started H enc)
#print axioms proved
end markerNone
end Go.Proofs.Ytlfnglinalmpjaa
