/- CrcParts: of all strings of at most 20000 bytes the sums of one behind the other are reached in two parts, and by joining. No condition. -/
import Derived.Test.YtkgnhdggfeiheaaCrcLaw
namespace Go.Proofs.Ytkgnhdggfeiheaa
open Go.ChangeShapes Go.WideShapes Go.ChangeAt Go.RowKit
set_option linter.unusedVariables false

namespace crcParts

set_option maxRecDepth 100000 in
theorem walk (s : ByteArray) (hs : s.size ≤ maxLen) (t : ByteArray) (ht : t.size ≤ maxLen) (w : World) :
    Calls Try.prog 5 #[.string s, .string t] w fun e w' => e = .returned (.bool true) ∧ Below w.heap.size w w' := by
  unfold maxLen at hs ht
  have AW := Lib.hid (fun w => awake_any w)
  by_cases h1 : 20000 < s.size
  · go_enter Try.func5, Try.ntmps5
    go_wp2_with fail
    (with_reducible refine (AW.out _).mono ?_)
    rintro e w1 ⟨rfl, h1⟩
    go_wp2_with fail
    go_ret
    exact ⟨rfl, h1⟩
  by_cases h2 : 20000 < t.size
  · have h1' : decide ((20000 : Int) < (s.size : Int)) = false := by simp; omega
    go_enter Try.func5, Try.ntmps5
    go_wp2_with fail
    (with_reducible refine (AW.out _).mono ?_)
    rintro e w1 ⟨rfl, h1⟩
    go_wp2_with fail
    go_ret
    exact ⟨rfl, h1⟩
  have h1' : decide ((20000 : Int) < (s.size : Int)) = false := by simp; omega
  have h2' : decide ((20000 : Int) < (t.size : Int)) = false := by simp; omega
  have lt : t.data.toList.length = t.size := by simp
  have la : (s ++ t).data.toList = s.data.toList ++ t.data.toList := by simp
  have ok : 0 ≤ (t.size : Int) ∧ (t.size : Int) ≤ 1073741824 := by omega
  have jE : Crc.joinE (t.size : Int) = 0 := if_pos ok
  have j1 : Crc.joinV16 (Crc.sum16 s.data.toList) (Crc.sum16 t.data.toList) t.size = Crc.sum16 (s.data.toList ++ t.data.toList) := by
    unfold Crc.joinV16
    rw [if_pos ok, Int.toNat_natCast, ← lt, Crc.join16_sum]
  have j2 : Crc.joinV32 (Crc.sum32 s.data.toList) (Crc.sum32 t.data.toList) t.size = Crc.sum32 (s.data.toList ++ t.data.toList) := by
    unfold Crc.joinV32
    rw [if_pos ok, Int.toNat_natCast, ← lt, Crc.join32_sum]
  have n1 : Crc.next16 (Crc.sum16 s.data.toList) t.data.toList = Crc.sum16 (s.data.toList ++ t.data.toList) := Crc.next16_append _ _ _
  have n2 : Crc.next32 (Crc.sum32 s.data.toList) t.data.toList = Crc.sum32 (s.data.toList ++ t.data.toList) := Crc.next32_append _ _ _
  have A1 := Lib.hid (fun w => sum16_any s (by omega) w)
  have A2 := Lib.hid (fun w => sum16_any t (by omega) w)
  have A3 := Lib.hid (fun w => sum16_any (s ++ t) (by rw [ByteArray.size_append]; omega) w)
  have B1 := Lib.hid (fun w => sum32_any s (by omega) w)
  have B2 := Lib.hid (fun w => sum32_any t (by omega) w)
  have B3 := Lib.hid (fun w => sum32_any (s ++ t) (by rw [ByteArray.size_append]; omega) w)
  have J1 := Lib.hid (fun w => join16_any (Crc.sum16 s.data.toList) (Crc.sum16 t.data.toList) t.size w)
  have J2 := Lib.hid (fun w => join32_any (Crc.sum32 s.data.toList) (Crc.sum32 t.data.toList) t.size w)
  have N1 := Lib.hid (fun w => next16_any (Crc.sum16 s.data.toList) t t.size rfl (by omega) w)
  have N2 := Lib.hid (fun w => next32_any (Crc.sum32 s.data.toList) t t.size rfl (by omega) w)
  rw [la] at A3 B3
  rw [j1, jE] at J1
  rw [j2, jE] at J2
  rw [n1] at N1
  rw [n2] at N2
  clear j1 j2 n1 n2 jE ok la lt
  obtain ⟨a1, ha1⟩ : ∃ v, (Crc.sum16 s.data.toList).toNat = v := ⟨_, rfl⟩
  obtain ⟨a2, ha2⟩ : ∃ v, (Crc.sum16 t.data.toList).toNat = v := ⟨_, rfl⟩
  obtain ⟨a3, ha3⟩ : ∃ v, (Crc.sum16 (s.data.toList ++ t.data.toList)).toNat = v := ⟨_, rfl⟩
  obtain ⟨b1, hb1⟩ : ∃ v, (Crc.sum32 s.data.toList).toNat = v := ⟨_, rfl⟩
  obtain ⟨b2, hb2⟩ : ∃ v, (Crc.sum32 t.data.toList).toNat = v := ⟨_, rfl⟩
  obtain ⟨b3, hb3⟩ : ∃ v, (Crc.sum32 (s.data.toList ++ t.data.toList)).toNat = v := ⟨_, rfl⟩
  rw [ha1] at A1 J1 N1
  rw [ha2] at A2 J1
  rw [ha3] at A3 J1 N1
  rw [hb1] at B1 J2 N2
  rw [hb2] at B2 J2
  rw [hb3] at B3 J2 N2
  clear ha1 ha2 ha3 hb1 hb2 hb3
  go_enter Try.func5, Try.ntmps5
  go_wp2_with fail
  (with_reducible refine (A1.out _).mono ?_)
  rintro e w1 ⟨rfl, h1⟩
  have H1 := Lib.hid (h1)
  clear h1
  go_wp2_with fail
  (with_reducible refine (A2.out _).mono ?_)
  rintro e w2 ⟨rfl, h2⟩
  have H2 := Lib.hid (bt H1.out h2)
  clear h2 H1
  go_wp2_with fail
  (with_reducible refine (J1.out _).mono ?_)
  rintro e w3 ⟨rfl, h3⟩
  have H3 := Lib.hid (bt H2.out h3)
  clear h3 H2
  go_wp2_with fail
  (with_reducible refine (B1.out _).mono ?_)
  rintro e w4 ⟨rfl, h4⟩
  have H4 := Lib.hid (bt H3.out h4)
  clear h4 H3
  go_wp2_with fail
  (with_reducible refine (B2.out _).mono ?_)
  rintro e w5 ⟨rfl, h5⟩
  have H5 := Lib.hid (bt H4.out h5)
  clear h5 H4
  go_wp2_with fail
  (with_reducible refine (J2.out _).mono ?_)
  rintro e w6 ⟨rfl, h6⟩
  have H6 := Lib.hid (bt H5.out h6)
  clear h6 H5
  go_wp2_with fail
  (with_reducible refine (A3.out _).mono ?_)
  rintro e w7 ⟨rfl, h7⟩
  have H7 := Lib.hid (bt H6.out h7)
  clear h7 H6
  go_wp2_with fail
  (with_reducible refine (B3.out _).mono ?_)
  rintro e w8 ⟨rfl, h8⟩
  have H8 := Lib.hid (bt H7.out h8)
  clear h8 H7
  go_wp2_with fail
  (with_reducible refine (A1.out _).mono ?_)
  rintro e w9 ⟨rfl, h9⟩
  have H9 := Lib.hid (bt H8.out h9)
  clear h9 H8
  go_wp2_with fail
  (with_reducible refine (N1.out _).mono ?_)
  rintro e w10 ⟨rfl, h10⟩
  have H10 := Lib.hid (bt H9.out h10)
  clear h10 H9
  go_wp2_with fail
  (with_reducible refine (B1.out _).mono ?_)
  rintro e w11 ⟨rfl, h11⟩
  have H11 := Lib.hid (bt H10.out h11)
  clear h11 H10
  go_wp2_with fail
  (with_reducible refine (N2.out _).mono ?_)
  rintro e w12 ⟨rfl, h12⟩
  have H12 := Lib.hid (bt H11.out h12)
  clear h12 H11
  go_wp2_with fail
  (with_reducible refine (AW.out _).mono ?_)
  rintro e w13 ⟨rfl, h13⟩
  have H13 := Lib.hid (bt H12.out h13)
  clear h13 H12
  go_wp2_with fail
  go_ret
  exact ⟨rfl, H13.out⟩

set_option maxRecDepth 100000 in
theorem lifted (os : Os) (started : os.Started) (H : Type) (enc : TypeId × Value → H) :
    ReturnsInHanded {} Try.checked os 5 .any (Rows.crcPartsSpec.pre6 enc Try.prog Try.f5 Rows.crcPartsRow.domain false) (Rows.crcPartsSpec.post enc Try.prog Try.f5 false true false false) := by
  refine returnsInHanded_of_change (C := Try.checked) own started (by kernel_rfl) Try.func5
    (ChangeSpec.witness6 (enc := enc) (C := Try.checked) false ⟨#[], #[.string { data := #[] }, .string { data := #[] }], []⟩ 8 (by kernel_rfl) (by kernel_rfl) (by kernel_rfl) (by kernel_rfl)) ?_
  intro W base args ds gs before hval0 hW _ _
  have hval : ∀ (j : Nat) t v, Try.f5.params[j]? = some t → args[j]? = some v → Value.okWide Try.prog W .any base t v := hval0
  have hW' := hW
  obtain ⟨p, q, hA0, hV, rfl, hfz, hnd⟩ := hW
  have hA : DataW.TrodAll enc Try.prog W 0 (fun _ => true) true Try.f5.params.toList args.toList ds p := hA0
  rw [Try.params5] at hA hval
  obtain ⟨v0, vs0, d0, ds0, p0, q0, hargs, rfl, rfl, h0, r0⟩ := trodAll_cons hA
  obtain ⟨v1, vs1, d1, ds1, p1, q1, rfl, rfl, rfl, h1, r1⟩ := trodAll_cons r0
  obtain ⟨rfl, rfl, rfl⟩ := trodAll_nil r1
  obtain rfl : args = #[v0, v1] := by cases args; simp_all
  obtain ⟨rfl, rfl⟩ := trodVars_none hV
  obtain ⟨a0, rfl, rfl, rfl, w0⟩ := ChangeMaps.open_string Try.underlying9 (hval 0 9 v0 rfl rfl) h0
  obtain ⟨a1, rfl, rfl, rfl, w1⟩ := ChangeMaps.open_string Try.underlying9 (hval 1 9 v1 rfl rfl) h1
  clear hA0 hval0
  simp only [List.append_nil] at hW'
  refine (walk a0 w0 a1 w1 W).mono fun e W' ⟨he, hg⟩ => ?_
  subst he
  exact ⟨_, rfl, post_of_below (pa := []) (pv := []) hW' (fun _ _ _ => trodAll_cons_mk (shut_bool Try.underlying4 _) trodAll_mk0) (fun sp _ => (trodAll_cons_mk (ChangeMaps.shut_string Try.underlying9 w0) (trodAll_cons_mk (ChangeMaps.shut_string Try.underlying9 w1) trodAll_mk0))) (fun _ _ => rfl) rfl
    hg (ok_one (by kernel_rfl) rfl (okWide_bool_mk Try.underlying4 _))⟩

theorem proved : Rows.CrcPartsSaid :=
  OpenClaim.holds_of_wide 5 Try.f5 rfl rfl rfl rfl rfl rfl rfl ⟨rfl, rfl, rfl, rfl, rfl⟩ rfl rfl rfl rfl rfl (by kernel_rfl) Try.func5 (by kernel_rfl)
    (of_decide_eq_true (by kernel_rfl)) (by unfold Func.isWrapper; first | (rw [if_pos (by decide +kernel)]; kernel_rfl) | (rw [if_neg (by decide +kernel)]; exact ⟨rfl, rfl⟩))
    (fun os started H enc _ => lifted os started H enc)
#print axioms proved
end crcParts
end Go.Proofs.Ytkgnhdggfeiheaa
