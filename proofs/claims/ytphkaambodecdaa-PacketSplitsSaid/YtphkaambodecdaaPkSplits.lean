/- PacketSplits: Split and Idle return what the document says. No condition. -/
import Derived.Test.YtphkaambodecdaaPkEq
import Derived.Test.YtphkaambodecdaaRowKit
import Derived.Test.YtphkaambodecdaaPkCutArg
import Derived.Test.YtphkaambodecdaaPkSame
import Derived.ProofKit
namespace Go.Proofs.Ytphkaambodecdaa
open Go.ChangeShapes Go.WideShapes Go.ChangeAt Go.RowKit
set_option linter.unusedVariables false

namespace packetSplits
/-- What both Splits return, in one form. -/
theorem splits_both (q : Pkt) (hs : q.da.size ≤ 1000000) : ∃ (K : Nat) (E : Int) (f : Nat → Pkt), K ≤ 16384 ∧ (∀ w, Calls Try.prog 19 #[.bool q.cmd, .int .i64 q.ap, .int .i64 q.fl, .string q.da, .int .i64 q.ct] w fun e w' => ∃ sa sc, e = .returned (.tuple #[.slice sa K sc, .int .i64 E]) ∧ w'.ownsRow w.heap.size 23 5 (.slice sa K sc) K (pkL f K) ∧ Below w.heap.size w w') ∧ (∀ w, Calls Try.prog 20 #[.bool q.cmd, .int .i64 q.ap, .int .i64 q.fl, .string q.da, .int .i64 q.ct] w fun e w' => ∃ sa sc, e = .returned (.tuple #[.slice sa K sc, .int .i64 E]) ∧ w'.ownsRow w.heap.size 23 5 (.slice sa K sc) K (pkL f K) ∧ Below w.heap.size w w') := by
  obtain ⟨cmd, ap, fl, ct, da⟩ := q
  by_cases h : cutOk ap fl ct da.size
  · obtain ⟨⟨a1, a2⟩, ⟨b1, b2⟩, ⟨c1, c2⟩, n0⟩ := h
    obtain ⟨c, rfl⟩ : ∃ c : Nat, fl = c := ⟨fl.toNat, by omega⟩
    obtain ⟨m, rfl⟩ : ∃ m : Nat, ct = m := ⟨ct.toNat, by omega⟩
    by_cases hl : 16384 < da.size
    · refine ⟨0, 3, fun _ => pk0, by omega, fun w => ?_, fun w => ?_⟩
      · refine (psplit_long cmd ap c m da _ rfl ⟨a1, a2⟩ (by omega) ⟨by omega, by omega⟩ (by omega) hl hs w).mono ?_
        rintro e w' ⟨rfl, rfl⟩
        exact ⟨none, 0, rfl, ⟨rfl, .inl ⟨rfl, rfl⟩⟩, Below.refl _ _⟩
      · refine (rsplit_long cmd ap c m da _ rfl ⟨a1, a2⟩ (by omega) ⟨by omega, by omega⟩ (by omega) hl hs w).mono ?_
        rintro e w' ⟨rfl, rfl⟩
        exact ⟨none, 0, rfl, ⟨rfl, .inl ⟨rfl, rfl⟩⟩, Below.refl _ _⟩
    · have hK : Pk.cnt da.size m ≤ 16384 := by
        unfold Pk.cnt
        refine Nat.le_of_lt_succ ((Nat.div_lt_iff_lt_mul (by omega)).2 ?_)
        have : (da.size + 1) * 1 ≤ (da.size + 1) * m := Nat.mul_le_mul_left _ (by omega)
        have e : 16385 * m = 16384 * m + m := by omega
        by_cases g : m = 1
        · subst g; omega
        · have e2 : 16384 * 1 ≤ 16384 * m := Nat.mul_le_mul_left _ (by omega)
          omega
      exact ⟨Pk.cnt da.size m, 0, Pk.cut cmd ap (c : Nat) da.data.toList m, hK, fun w => psplit_ok cmd ap c m da _ rfl ⟨a1, a2⟩ (by omega) ⟨by omega, by omega⟩ (by omega) (by omega) w, fun w => rsplit_ok cmd ap c m da _ rfl ⟨a1, a2⟩ (by omega) ⟨by omega, by omega⟩ (by omega) (by omega) w⟩
  · refine ⟨0, 2, fun _ => pk0, by omega, fun w => ?_, fun w => ?_⟩
    · refine (psplit_bad cmd ap fl ct da h w).mono ?_
      rintro e w' ⟨rfl, rfl⟩
      exact ⟨none, 0, rfl, ⟨rfl, .inl ⟨rfl, rfl⟩⟩, Below.refl _ _⟩
    · refine (rsplit_bad cmd ap fl ct da h w).mono ?_
      rintro e w' ⟨rfl, rfl⟩
      exact ⟨none, 0, rfl, ⟨rfl, .inl ⟨rfl, rfl⟩⟩, Below.refl _ _⟩
theorem idles_both (n : Int) (hn : (Lit.int .i64 n).wf = true) : ∃ (sv : ByteArray) (cd : Int), (∀ w, Calls Try.prog 21 #[.int .i64 n] w fun e w' => e = .returned (.tuple #[.string sv, .int .i64 cd]) ∧ Below w.heap.size w w') ∧ (∀ w, Calls Try.prog 22 #[.int .i64 n] w fun e w' => e = .returned (.tuple #[.string sv, .int .i64 cd]) ∧ Below w.heap.size w w') := by
  obtain ⟨h0, h1⟩ := bounds_i64 hn
  by_cases g : n < 7 ∨ 1030 < n
  · refine ⟨⟨#[]⟩, 2, fun w => (pidle_no n g (by omega) (by omega) w).mono ?_, fun w => (ridle_no n g w).mono ?_⟩
    · rintro e w' ⟨rfl, rfl⟩; exact ⟨rfl, Below.refl _ _⟩
    · rintro e w' ⟨rfl, rfl⟩; exact ⟨rfl, Below.refl _ _⟩
  · obtain ⟨s, rfl⟩ : ∃ s : Nat, n = s := ⟨n.toNat, by omega⟩
    exact ⟨_, _, fun w => pidle_any s (by omega) (by omega) w, fun w => ridle_any s (by omega) (by omega) w⟩
set_option maxRecDepth 100000 in
set_option maxHeartbeats 4000000 in
theorem walk (q : Pkt) (hq : PkWf q) (n : Int) (hn : (Lit.int .i64 n).wf = true) (w : World) : Calls Try.prog 5 #[pkVal q, .int .i64 n] w fun e w' => e = .returned (.bool true) ∧ Below w.heap.size w w' := by
  have SH := Lib.hid (fun w => shown_any w)
  obtain ⟨m, hm⟩ : ∃ m, q.da.size = m := ⟨_, rfl⟩
  have hs : m ≤ 9223372036854775807 := by have := hq.2.2.2; rw [← hm]; unfold maxLen at this; omega
  by_cases hl : 20000 < m
  · have t1 : decide (20000 < (m : Int)) = true := decide_eq_true (by omega)
    have t1n : decide (20000 < m) = true := decide_eq_true hl
    clear hl hq
    go_enter Try.func5, Try.ntmps5
    go_wp2_with (refine wpList_new rfl (.box 35 (.tmp 0)) rfl (some 2) rfl #[.bool q.cmd, .int .i64 q.ap, .int .i64 q.fl, .int .i64 q.ct, .string q.da] 35 (fun X => .pointer (some ⟨X, 0, none⟩)) 5 (pkCel q) (pk_cells q) (box_cut rfl rfl) ?_; intro X w0 HX Sw0 CX Bw0)
    (with_reducible refine (SH.out _).mono ?_)
    rintro e w1 ⟨rfl, h1⟩
    have cX : w1.cell? ⟨X, 4, none⟩ = some (.string q.da) := (CX.out.below h1).cell (j := 4) (by omega)
    have B1 := Lib.hid (bt Bw0.out h1)
    clear h1
    go_wp2_with fail
    go_ret
    exact ⟨rfl, B1.out⟩
  · have t1 : decide (20000 < (m : Int)) = false := decide_eq_false (by omega)
    have t1n : decide (20000 < m) = false := decide_eq_false hl
    obtain ⟨K, E, f, hK, T1, T2⟩ := splits_both q (by omega)
    obtain ⟨sv, cd, T3, T4⟩ := idles_both n hn
    have T1 := Lib.hid T1
    have T2 := Lib.hid T2
    have T3 := Lib.hid T3
    have T4 := Lib.hid T4
    have HK := Lib.hid hK
    have zs : (sv.toList == sv.toList) = true := by simp
    have ze : (E == E) = true := by simp
    have zc : (cd == cd) = true := by simp
    clear hl hq hK hn
    go_enter Try.func5, Try.ntmps5
    go_wp2_with (refine wpList_new rfl (.box 35 (.tmp 0)) rfl (some 2) rfl #[.bool q.cmd, .int .i64 q.ap, .int .i64 q.fl, .int .i64 q.ct, .string q.da] 35 (fun X => .pointer (some ⟨X, 0, none⟩)) 5 (pkCel q) (pk_cells q) (box_cut rfl rfl) ?_; intro X w0 HX Sw0 CX Bw0)
    (with_reducible refine (SH.out _).mono ?_)
    rintro e w1 ⟨rfl, h1⟩
    have B1 := Lib.hid (bt Bw0.out h1)
    have CX1 := Lib.hid (CX.out.below h1)
    have c0 : w1.cell? ⟨X, 0, none⟩ = some (.bool q.cmd) := CX1.out.cell (j := 0) (by omega)
    have c1 : w1.cell? ⟨X, 1, none⟩ = some (.int .i64 q.ap) := CX1.out.cell (j := 1) (by omega)
    have c2 : w1.cell? ⟨X, 2, none⟩ = some (.int .i64 q.fl) := CX1.out.cell (j := 2) (by omega)
    have c3 : w1.cell? ⟨X, 3, none⟩ = some (.int .i64 q.ct) := CX1.out.cell (j := 3) (by omega)
    have c4 : w1.cell? ⟨X, 4, none⟩ = some (.string q.da) := CX1.out.cell (j := 4) (by omega)
    clear h1
    go_wp2_with fail
    (refine (T1.out _).mono ?_)
    rintro e w2 ⟨sa, sc, rfl, O1, h2⟩
    have B2 := Lib.hid (bt B1.out h2)
    have CX2 := Lib.hid (CX1.out.below h2)
    have OA2 := Lib.hid O1
    clear h2 O1 c0 c1 c2 c3 c4
    have c0 : w2.cell? ⟨X, 0, none⟩ = some (.bool q.cmd) := CX2.out.cell (j := 0) (by omega)
    have c1 : w2.cell? ⟨X, 1, none⟩ = some (.int .i64 q.ap) := CX2.out.cell (j := 1) (by omega)
    have c2 : w2.cell? ⟨X, 2, none⟩ = some (.int .i64 q.fl) := CX2.out.cell (j := 2) (by omega)
    have c3 : w2.cell? ⟨X, 3, none⟩ = some (.int .i64 q.ct) := CX2.out.cell (j := 3) (by omega)
    have c4 : w2.cell? ⟨X, 4, none⟩ = some (.string q.da) := CX2.out.cell (j := 4) (by omega)
    go_wp2_with fail
    (refine (T2.out _).mono ?_)
    rintro e w3 ⟨sb, sd, rfl, O2, h3⟩
    have B3 := Lib.hid (bt B2.out h3)
    have OA3 := Lib.hid (own_below OA2.out h3)
    have OB3 := Lib.hid O2
    clear h3 O2 c0 c1 c2 c3 c4
    go_wp2_with fail
    (refine (T3.out _).mono ?_)
    rintro e w4 ⟨rfl, h4⟩
    have B4 := Lib.hid (bt B3.out h4)
    have OA4 := Lib.hid (own_below OA3.out h4)
    have OB4 := Lib.hid (own_below OB3.out h4)
    clear h4
    go_wp2_with fail
    (refine (T4.out _).mono ?_)
    rintro e w5 ⟨rfl, h5⟩
    have B5 := Lib.hid (bt B4.out h5)
    have OA5 := Lib.hid (own_below OA4.out h5)
    have OB5 := Lib.hid (own_below OB4.out h5)
    clear h5
    go_wp2_with fail
    (refine (same_any sa sb K sc sd _ _ f (by have := HK.out; omega) _ OA5.out OB5.out).mono ?_)
    rintro e w6 ⟨rfl, h6⟩
    have B6 := Lib.hid (bt B5.out h6)
    clear h6
    go_wp2_with fail
    go_ret
    exact ⟨rfl, B6.out⟩

set_option maxRecDepth 100000 in
theorem lifted (os : Os) (started : os.Started) (H : Type) (enc : TypeId × Value → H) :
    ReturnsInHanded {} Try.checked os 5 .any (Rows.packetSplitsSpec.pre6 enc Try.prog Try.f5 Rows.packetSplitsRow.domain false) (Rows.packetSplitsSpec.post enc Try.prog Try.f5 false true false false) := by
  refine returnsInHanded_of_change (C := Try.checked) own started (by kernel_rfl) Try.func5
    (ChangeSpec.witness6 (enc := enc) (C := Try.checked) false ⟨#[], #[.agg #[.bool false, .int .i64 0, .int .i64 0, .int .i64 0, .string { data := #[] }], .int .i64 0], []⟩ 8 (by kernel_rfl) (by kernel_rfl) (by kernel_rfl) (by kernel_rfl)) ?_
  intro W base args ds gs before hval0 hW _ _
  have hval : ∀ (j : Nat) t v, Try.f5.params[j]? = some t → args[j]? = some v → Value.okWide Try.prog W .any base t v := hval0
  have hW' := hW
  obtain ⟨p, q, hA0, hV, rfl, hfz, hnd⟩ := hW
  have hA : DataW.TrodAll enc Try.prog W 0 (fun _ => true) true Try.f5.params.toList args.toList ds p := hA0
  rw [Try.params5] at hA hval
  obtain ⟨v0, vs0, d0, ds0, p0, q0, hargs, rfl, rfl, h0, r0⟩ := trodAll_cons hA
  obtain ⟨v1, vs1, d1, ds1, p1, q1, rfl, rfl, rfl, h1, r1⟩ := trodAll_cons r0
  obtain ⟨rfl, rfl, rfl⟩ := trodAll_nil r1
  obtain rfl : args = #[v0, v1] := by cases args; simp_all
  obtain ⟨rfl, rfl⟩ := trodVars_none hV
  obtain ⟨a0, rfl, w0, shut0⟩ := cut_arg (hval 0 35 v0 rfl rfl) h0
  obtain ⟨a1, rfl, rfl, rfl, w1⟩ := open_int Try.underlying3 (hval 1 3 v1 rfl rfl) h1
  clear hA0 hval0
  simp only [List.append_nil] at hW'
  refine (walk a0 w0 a1 w1 W).mono fun e W' ⟨he, hg⟩ => ?_
  subst he
  exact ⟨_, rfl, post_of_below (pa := (p0 ++ ([] ++ []))) (pv := []) hW' (fun _ _ _ => trodAll_cons_mk (shut_bool Try.underlying4 _) trodAll_mk0) (fun sp hsp => (trodAll_cons_mk (shut0 W' hg sp (fun q hq => hsp q (by simp [hq]))) (trodAll_cons_mk (shut_int Try.underlying3 w1) trodAll_mk0))) (fun _ _ => rfl) (by simp)
    hg (ok_one (by kernel_rfl) rfl (okWide_bool_mk Try.underlying4 _))⟩

theorem proved : Rows.PacketSplitsSaid :=
  OpenClaim.holds_of_wide 5 Try.f5 rfl rfl rfl rfl rfl rfl rfl ⟨rfl, rfl, rfl, rfl, rfl⟩ rfl rfl rfl rfl rfl (by kernel_rfl) Try.func5 (by kernel_rfl)
    (of_decide_eq_true (by kernel_rfl)) (by unfold Func.isWrapper; first | (rw [if_pos (by decide +kernel)]; kernel_rfl) | (rw [if_neg (by decide +kernel)]; exact ⟨rfl, rfl⟩))
    (fun os started H enc _ => lifted os started H enc)
#print axioms proved
end packetSplits
end Go.Proofs.Ytphkaambodecdaa
