/- MarkerMixes: Sequence, Mix and Attach of layer 8 return what the reference returns, and Mix inverts itself, for every input. -/
import Derived.Test.YtlfnglinalmpjaaMkAwake
namespace Go.Proofs.Ytlfnglinalmpjaa
open Go.ChangeShapes Go.WideShapes Go.ChangeAt Go.RowKit
set_option linter.unusedVariables false

namespace markerMixes
theorem mix_twice (b : ByteArray) (n : Nat) (hn : b.size = n) : mixS (mixS b n) n = b := by
  unfold mixS
  apply ByteArray.ext
  apply Array.toList_inj.1
  refine Gal.ext (by simp [Gal.coefs_length, ← hn]) (fun i hi => ?_)
  have hi' : i < n := by simpa [Gal.coefs_length] using hi
  show Gal.co (Gal.coefs _ _) i = _
  rw [Gal.co_coefs, if_pos hi']
  unfold mixv
  show Gal.co (Gal.coefs _ _) i ^^^ _ = _
  rw [Gal.co_coefs, if_pos hi']
  rw [BitVec.xor_assoc, BitVec.xor_self, BitVec.xor_zero]
/-- Both return the same string and code. -/
def Both (f g : FuncId) (a : Value) (s : ByteArray) (c : Int) : Prop :=
  (∀ w, Calls Try.prog f #[a] w fun e w' => e = .returned (.tuple #[.string s, .int .i64 c]) ∧ Below w.heap.size w w') ∧ (∀ w, Calls Try.prog g #[a] w fun e w' => e = .returned (.tuple #[.string s, .int .i64 c]) ∧ Below w.heap.size w w')
theorem below_eq {w w' : World} {e x : Ending} (h : e = x ∧ w = w') : e = x ∧ Below w.heap.size w w' := ⟨h.1, h.2 ▸ Below.refl _ _⟩
theorem both_seq (n : Int) (h : n < 0 ∨ n ≤ 3000 ∨ 65536 < n) : ∃ s c, Both 10 11 (.int .i64 n) s c := by
  by_cases h1 : n < 0 ∨ 65536 < n
  · exact ⟨_, _, fun w => (psq_no n h1 w).mono (fun _ _ => below_eq), fun w => (rsequence_no n h1 w).mono (fun _ _ => below_eq)⟩
  · obtain ⟨m, rfl⟩ : ∃ m : Nat, n = (m : Int) := ⟨n.toNat, by omega⟩
    exact ⟨_, _, fun w => psq_any m (by omega) w, fun w => rsequence_any m (by omega) w⟩
theorem both_att (l : ByteArray) (n : Nat) (hn : l.size = n) (hl : n ≤ 30000) : ∃ s c, Both 14 15 (.string l) s c := by
  cases h : listOk l.data.toList with
  | false => exact ⟨_, _, fun w => (patt_form l n hn (by omega) h w).mono (fun _ _ => below_eq), fun w => (ratt_form l n hn (by omega) h w).mono (fun _ _ => below_eq)⟩
  | true =>
    by_cases h1 : 20000 < n
    · exact ⟨_, _, fun w => (patt_long l n hn (by omega) h h1 w).mono (fun _ _ => below_eq), fun w => (ratt_long l n hn (by omega) h h1 w).mono (fun _ _ => below_eq)⟩
    · exact ⟨_, _, fun w => patt_any l n hn (by omega) h w, fun w => ratt_any l n hn (by omega) h w⟩
set_option maxRecDepth 100000 in
set_option maxHeartbeats 1000000 in
theorem walk (n : Int) (hw : (Lit.int .i64 n).wf = true) (b : ByteArray) (wb : b.size ≤ maxLen) (s : ByteArray) (ws : s.size ≤ maxLen) (w : World) : Calls Try.prog 3 #[.int .i64 n, .string b, .string s] w fun e w' => e = .returned (.bool true) ∧ Below w.heap.size w w' := by
  have AW := Lib.hid (fun w => awake_any w)
  clear hw wb ws
  obtain ⟨B, hB⟩ : ∃ B, b.size = B := ⟨_, rfl⟩
  obtain ⟨S, hS⟩ : ∃ S, s.size = S := ⟨_, rfl⟩
  by_cases g1 : 3000 < B
  · have t1 : decide ((3000 : Int) < (B : Int)) = true := by simp; omega
    go_enter Try.func3, Try.ntmps3
    go_wp2_with fail
    (with_reducible refine (AW.out _).mono ?_)
    rintro e w1 ⟨rfl, h1⟩
    go_wp2_with fail
    go_ret
    exact ⟨rfl, h1⟩
  have t1 : decide ((3000 : Int) < (B : Int)) = false := by simp; omega
  by_cases g2 : 30000 < S
  · have t2 : decide ((30000 : Int) < (S : Int)) = true := by simp; omega
    go_enter Try.func3, Try.ntmps3
    go_wp2_with fail
    (with_reducible refine (AW.out _).mono ?_)
    rintro e w1 ⟨rfl, h1⟩
    go_wp2_with fail
    go_ret
    exact ⟨rfl, h1⟩
  have t2 : decide ((30000 : Int) < (S : Int)) = false := by simp; omega
  have MD : Hid (∀ w, ∀ (c1 c2 : Bool), decide ((3000 : Int) < n) = c1 → decide (n ≤ 65536) = c2 → (c1 && c2) = false → Calls Try.prog 3 #[.int .i64 n, .string b, .string s] w fun e w' => e = .returned (.bool true) ∧ Below w.heap.size w w') := Lib.hid (fun w c1 c2 hc1 hc2 hcc => by
    obtain ⟨Q, c, hQ⟩ := both_seq n (by
      by_cases h3 : 3000 < n
      · rw [decide_eq_true h3] at hc1
        subst hc1
        have h4 : c2 = false := by simpa using hcc
        subst h4
        have := of_decide_eq_false hc2
        omega
      · omega)
    obtain ⟨R, d, hR⟩ := both_att s S hS (by omega)
    have M1 := Lib.hid (fun w => pmix_any b B hB (by omega) w)
    have M2 := Lib.hid (fun w => rmix_any b B hB (by omega) w)
    have sM : (mixS b B).size = B := coefs_size _ _
    have M3 := Lib.hid (fun w => pmix_any (mixS b B) B sM (by omega) w)
    rw [mix_twice b B hB] at M3
    obtain ⟨M, hM⟩ : ∃ M, mixS b B = M := ⟨_, rfl⟩
    rw [hM] at M1 M2 M3
    have Q1 := Lib.hid hQ.1
    have Q2 := Lib.hid hQ.2
    have R1 := Lib.hid hR.1
    have R2 := Lib.hid hR.2
    have x1 : (Q == Q) = true := by show (Q.data == Q.data) = true; simp
    have x2 : (R == R) = true := by show (R.data == R.data) = true; simp
    have x3 : (M == M) = true := by show (M.data == M.data) = true; simp
    have x4 : (b == b) = true := by show (b.data == b.data) = true; simp
    have z1 : (Q != Q) = false := by simp [bne, x1]
    have z2 : (R != R) = false := by simp [bne, x2]
    have z3 : (M != M) = false := by simp [bne, x3]
    have y1 : (c == c) = true := by simp
    have y2 : (d == d) = true := by simp
    clear hQ hR sM hM
    cases c1 with
    | false =>
      go_enter Try.func3, Try.ntmps3
      go_wp2_with fail
      (with_reducible refine (Q1.out _).mono ?_)
      rintro e w1 ⟨rfl, h1⟩
      go_wp2_with fail
      (with_reducible refine (Q2.out _).mono ?_)
      rintro e w2 ⟨rfl, h2⟩
      go_wp2_with fail
      (with_reducible refine (M1.out _).mono ?_)
      rintro e w3 ⟨rfl, h3⟩
      go_wp2_with fail
      (with_reducible refine (M2.out _).mono ?_)
      rintro e w4 ⟨rfl, h4⟩
      go_wp2_with fail
      (with_reducible refine (R1.out _).mono ?_)
      rintro e w5 ⟨rfl, h5⟩
      go_wp2_with fail
      (with_reducible refine (R2.out _).mono ?_)
      rintro e w6 ⟨rfl, h6⟩
      have B6 := Lib.hid (bt (bt (bt (bt (bt h1 h2) h3) h4) h5) h6)
      clear h1 h2 h3 h4 h5 h6 Q1 Q2 M1 M2 R1 R2
      go_wp2_with fail
      (with_reducible refine (M3.out _).mono ?_)
      rintro e w7 ⟨rfl, h7⟩
      have B7 := Lib.hid (bt B6.out h7)
      clear h7
      go_wp2_with fail
      (with_reducible refine (AW.out _).mono ?_)
      rintro e w8 ⟨rfl, h8⟩
      have B8 := Lib.hid (bt B7.out h8)
      clear h8
      go_wp2_with fail
      go_ret
      exact ⟨rfl, B8.out⟩
    | true =>
      cases c2 with
      | true => cases hcc
      | false =>
        go_enter Try.func3, Try.ntmps3
        go_wp2_with fail
        (with_reducible refine (Q1.out _).mono ?_)
        rintro e w1 ⟨rfl, h1⟩
        go_wp2_with fail
        (with_reducible refine (Q2.out _).mono ?_)
        rintro e w2 ⟨rfl, h2⟩
        go_wp2_with fail
        (with_reducible refine (M1.out _).mono ?_)
        rintro e w3 ⟨rfl, h3⟩
        go_wp2_with fail
        (with_reducible refine (M2.out _).mono ?_)
        rintro e w4 ⟨rfl, h4⟩
        go_wp2_with fail
        (with_reducible refine (R1.out _).mono ?_)
        rintro e w5 ⟨rfl, h5⟩
        go_wp2_with fail
        (with_reducible refine (R2.out _).mono ?_)
        rintro e w6 ⟨rfl, h6⟩
        have B6 := Lib.hid (bt (bt (bt (bt (bt h1 h2) h3) h4) h5) h6)
        clear h1 h2 h3 h4 h5 h6 Q1 Q2 M1 M2 R1 R2
        go_wp2_with fail
        (with_reducible refine (M3.out _).mono ?_)
        rintro e w7 ⟨rfl, h7⟩
        have B7 := Lib.hid (bt B6.out h7)
        clear h7
        go_wp2_with fail
        (with_reducible refine (AW.out _).mono ?_)
        rintro e w8 ⟨rfl, h8⟩
        have B8 := Lib.hid (bt B7.out h8)
        clear h8
        go_wp2_with fail
        go_ret
        exact ⟨rfl, B8.out⟩)
  by_cases g3 : 3000 < n ∧ n ≤ 65536
  · have t3 : decide ((3000 : Int) < n) = true := by simp; omega
    have t4 : decide (n ≤ 65536) = true := by simp; omega
    go_enter Try.func3, Try.ntmps3
    go_wp2_with fail
    (with_reducible refine (AW.out _).mono ?_)
    rintro e w1 ⟨rfl, h1⟩
    go_wp2_with fail
    go_ret
    exact ⟨rfl, h1⟩
  exact MD.out w _ _ rfl rfl (by
    cases h : decide ((3000 : Int) < n) with
    | false => rfl
    | true =>
      have := of_decide_eq_true h
      exact decide_eq_false (fun q => g3 ⟨this, q⟩))

set_option maxRecDepth 100000 in
theorem lifted (os : Os) (started : os.Started) (H : Type) (enc : TypeId × Value → H) :
    ReturnsInHanded {} Try.checked os 3 .any (Rows.markerMixesSpec.pre6 enc Try.prog Try.f3 Rows.markerMixesRow.domain false) (Rows.markerMixesSpec.post enc Try.prog Try.f3 false true false false) := by
  refine returnsInHanded_of_change (C := Try.checked) own started (by kernel_rfl) Try.func3
    (ChangeSpec.witness6 (enc := enc) (C := Try.checked) false ⟨#[], #[.int .i64 0, .string { data := #[] }, .string { data := #[] }], []⟩ 8 (by kernel_rfl) (by kernel_rfl) (by kernel_rfl) (by kernel_rfl)) ?_
  intro W base args ds gs before hval0 hW _ _
  have hval : ∀ (j : Nat) t v, Try.f3.params[j]? = some t → args[j]? = some v → Value.okWide Try.prog W .any base t v := hval0
  have hW' := hW
  obtain ⟨p, q, hA0, hV, rfl, hfz, hnd⟩ := hW
  have hA : DataW.TrodAll enc Try.prog W 0 (fun _ => true) true Try.f3.params.toList args.toList ds p := hA0
  rw [Try.params3] at hA hval
  obtain ⟨v0, vs0, d0, ds0, p0, q0, hargs, rfl, rfl, h0, r0⟩ := trodAll_cons hA
  obtain ⟨v1, vs1, d1, ds1, p1, q1, rfl, rfl, rfl, h1, r1⟩ := trodAll_cons r0
  obtain ⟨v2, vs2, d2, ds2, p2, q2, rfl, rfl, rfl, h2, r2⟩ := trodAll_cons r1
  obtain ⟨rfl, rfl, rfl⟩ := trodAll_nil r2
  obtain rfl : args = #[v0, v1, v2] := by cases args; simp_all
  obtain ⟨rfl, rfl⟩ := trodVars_none hV
  obtain ⟨a0, rfl, rfl, rfl, w0⟩ := open_int Try.underlying3 (hval 0 3 v0 rfl rfl) h0
  obtain ⟨a1, rfl, rfl, rfl, w1⟩ := ChangeMaps.open_string Try.underlying9 (hval 1 9 v1 rfl rfl) h1
  obtain ⟨a2, rfl, rfl, rfl, w2⟩ := ChangeMaps.open_string Try.underlying9 (hval 2 9 v2 rfl rfl) h2
  clear hA0 hval0
  simp only [List.append_nil] at hW'
  refine (walk a0 w0 a1 w1 a2 w2 W).mono fun e W' ⟨he, hg⟩ => ?_
  subst he
  exact ⟨_, rfl, post_of_below (pa := []) (pv := []) hW' (fun _ _ _ => trodAll_cons_mk (shut_bool Try.underlying4 _) trodAll_mk0) (fun sp _ => (trodAll_cons_mk (shut_int Try.underlying3 w0) (trodAll_cons_mk (ChangeMaps.shut_string Try.underlying9 w1) (trodAll_cons_mk (ChangeMaps.shut_string Try.underlying9 w2) trodAll_mk0)))) (fun _ _ => rfl) rfl
    hg (ok_one (by kernel_rfl) rfl (okWide_bool_mk Try.underlying4 _))⟩

theorem proved : Rows.MarkerMixesSaid :=
  OpenClaim.holds_of_wide 3 Try.f3 rfl rfl rfl rfl rfl rfl rfl ⟨rfl, rfl, rfl, rfl, rfl⟩ rfl rfl rfl rfl rfl (by kernel_rfl) Try.func3 (by kernel_rfl)
    (of_decide_eq_true (by kernel_rfl)) (by unfold Func.isWrapper; first | (rw [if_pos (by decide +kernel)]; kernel_rfl) | (rw [if_neg (by decide +kernel)]; exact ⟨rfl, rfl⟩))
    (fun os started H enc _ => lifted os started H enc)
#print axioms proved
end markerMixes
end Go.Proofs.Ytlfnglinalmpjaa
