/- CrcJoins: for all numbers, Join16 and Join32 return what the document says. No condition. -/
import Derived.Test.YtkgnhdggfeiheaaCrcLaw
import Derived.Test.YtkgnhdggfeiheaaCrcZRef
namespace Go.Proofs.Ytkgnhdggfeiheaa
open Go.ChangeShapes Go.WideShapes Go.ChangeAt Go.RowKit
set_option linter.unusedVariables false

namespace crcJoins

theorem low16 (r : BitVec 32) : IntKind.u16.wrap (r.toNat : Int) = ((BitVec.ofNat 16 r.toNat).toNat : Int) := by
  rw [IntKind.wrap_u16]
  rw [BitVec.toNat_ofNat]
  omega
set_option maxRecDepth 100000 in
set_option maxHeartbeats 1000000 in
theorem walk (x : Int) (hx : (Lit.int .u32 x).wf = true) (y : Int) (hy : (Lit.int .u32 y).wf = true) (n : Int) (hn : (Lit.int .i64 n).wf = true) (w : World) :
    Calls Try.prog 4 #[.int .u32 x, .int .u32 y, .int .i64 n] w fun e w' => e = .returned (.bool true) ∧ Below w.heap.size w w' := by
  obtain ⟨r, rfl⟩ := bounds32 hx
  obtain ⟨s, rfl⟩ := bounds32 hy
  have AW := Lib.hid (fun w => awake_any w)
  have l1 := low16 r
  have l2 := low16 s
  obtain ⟨a, ha⟩ : ∃ a, BitVec.ofNat 16 r.toNat = a := ⟨_, rfl⟩
  obtain ⟨b, hb⟩ : ∃ a, BitVec.ofNat 16 s.toNat = a := ⟨_, rfl⟩
  rw [ha] at l1
  rw [hb] at l2
  have J1 := Lib.hid (fun w => join16_any a b n w)
  have R1 := Lib.hid (fun w => rjoin16_any a b n w)
  have J2 := Lib.hid (fun w => join32_any r s n w)
  have R2 := Lib.hid (fun w => rjoin32_any r s n w)
  obtain ⟨v1, e1⟩ : ∃ v, (Crc.joinV16 a b n).toNat = v := ⟨_, rfl⟩
  obtain ⟨v2, e2⟩ : ∃ v, (Crc.joinV32 r s n).toNat = v := ⟨_, rfl⟩
  obtain ⟨e, e3⟩ : ∃ v, Crc.joinE n = v := ⟨_, rfl⟩
  obtain ⟨X, e4⟩ : ∃ v, r.toNat = v := ⟨_, rfl⟩
  obtain ⟨Y, e5⟩ : ∃ v, s.toNat = v := ⟨_, rfl⟩
  obtain ⟨A, e6⟩ : ∃ v, a.toNat = v := ⟨_, rfl⟩
  obtain ⟨B, e7⟩ : ∃ v, b.toNat = v := ⟨_, rfl⟩
  rw [e1, e3, e6, e7] at J1 R1
  rw [e2, e3, e4, e5] at J2 R2
  rw [e4, e6] at l1
  rw [e5, e7] at l2
  rw [e4, e5]
  clear e1 e2 e3 e4 e5 e6 e7 ha hb hx hy hn
  go_enter Try.func4, Try.ntmps4
  go_wp2_with fail
  (with_reducible refine (J1.out _).mono ?_)
  rintro e w1 ⟨rfl, h1⟩
  have H1 := Lib.hid (h1)
  clear h1
  go_wp2_with fail
  (with_reducible refine (R1.out _).mono ?_)
  rintro e w2 ⟨rfl, h2⟩
  have H2 := Lib.hid (bt H1.out h2)
  clear h2 H1
  go_wp2_with fail
  (with_reducible refine (J2.out _).mono ?_)
  rintro e w3 ⟨rfl, h3⟩
  have H3 := Lib.hid (bt H2.out h3)
  clear h3 H2
  go_wp2_with fail
  (with_reducible refine (R2.out _).mono ?_)
  rintro e w4 ⟨rfl, h4⟩
  have H4 := Lib.hid (bt H3.out h4)
  clear h4 H3
  go_wp2_with fail
  (with_reducible refine (AW.out _).mono ?_)
  rintro e w5 ⟨rfl, h5⟩
  have H5 := Lib.hid (bt H4.out h5)
  clear h5 H4
  go_wp2_with fail
  go_ret
  exact ⟨rfl, H5.out⟩

set_option maxRecDepth 100000 in
theorem lifted (os : Os) (started : os.Started) (H : Type) (enc : TypeId × Value → H) :
    ReturnsInHanded {} Try.checked os 4 .any (Rows.crcJoinsSpec.pre6 enc Try.prog Try.f4 Rows.crcJoinsRow.domain false) (Rows.crcJoinsSpec.post enc Try.prog Try.f4 false true false false) := by
  refine returnsInHanded_of_change (C := Try.checked) own started (by kernel_rfl) Try.func4
    (ChangeSpec.witness6 (enc := enc) (C := Try.checked) false ⟨#[], #[.int .u32 0, .int .u32 0, .int .i64 0], []⟩ 8 (by kernel_rfl) (by kernel_rfl) (by kernel_rfl) (by kernel_rfl)) ?_
  intro W base args ds gs before hval0 hW _ _
  have hval : ∀ (j : Nat) t v, Try.f4.params[j]? = some t → args[j]? = some v → Value.okWide Try.prog W .any base t v := hval0
  have hW' := hW
  obtain ⟨p, q, hA0, hV, rfl, hfz, hnd⟩ := hW
  have hA : DataW.TrodAll enc Try.prog W 0 (fun _ => true) true Try.f4.params.toList args.toList ds p := hA0
  rw [Try.params4] at hA hval
  obtain ⟨v0, vs0, d0, ds0, p0, q0, hargs, rfl, rfl, h0, r0⟩ := trodAll_cons hA
  obtain ⟨v1, vs1, d1, ds1, p1, q1, rfl, rfl, rfl, h1, r1⟩ := trodAll_cons r0
  obtain ⟨v2, vs2, d2, ds2, p2, q2, rfl, rfl, rfl, h2, r2⟩ := trodAll_cons r1
  obtain ⟨rfl, rfl, rfl⟩ := trodAll_nil r2
  obtain rfl : args = #[v0, v1, v2] := by cases args; simp_all
  obtain ⟨rfl, rfl⟩ := trodVars_none hV
  obtain ⟨a0, rfl, rfl, rfl, w0⟩ := open_int Try.underlying23 (hval 0 23 v0 rfl rfl) h0
  obtain ⟨a1, rfl, rfl, rfl, w1⟩ := open_int Try.underlying23 (hval 1 23 v1 rfl rfl) h1
  obtain ⟨a2, rfl, rfl, rfl, w2⟩ := open_int Try.underlying3 (hval 2 3 v2 rfl rfl) h2
  clear hA0 hval0
  simp only [List.append_nil] at hW'
  refine (walk a0 w0 a1 w1 a2 w2 W).mono fun e W' ⟨he, hg⟩ => ?_
  subst he
  exact ⟨_, rfl, post_of_below (pa := []) (pv := []) hW' (fun _ _ _ => trodAll_cons_mk (shut_bool Try.underlying4 _) trodAll_mk0) (fun sp _ => (trodAll_cons_mk (shut_int Try.underlying23 w0) (trodAll_cons_mk (shut_int Try.underlying23 w1) (trodAll_cons_mk (shut_int Try.underlying3 w2) trodAll_mk0)))) (fun _ _ => rfl) rfl
    hg (ok_one (by kernel_rfl) rfl (okWide_bool_mk Try.underlying4 _))⟩

theorem proved : Rows.CrcJoinsSaid :=
  OpenClaim.holds_of_wide 4 Try.f4 rfl rfl rfl rfl rfl rfl rfl ⟨rfl, rfl, rfl, rfl, rfl⟩ rfl rfl rfl rfl rfl (by kernel_rfl) Try.func4 (by kernel_rfl)
    (of_decide_eq_true (by kernel_rfl)) (by unfold Func.isWrapper; first | (rw [if_pos (by decide +kernel)]; kernel_rfl) | (rw [if_neg (by decide +kernel)]; exact ⟨rfl, rfl⟩))
    (fun os started H enc _ => lifted os started H enc)
#print axioms proved
end crcJoins
end Go.Proofs.Ytkgnhdggfeiheaa
