/- CrcZeros: for every sum and all numbers, joining strings of bytes 0 in two steps, or in one, makes no difference, up to the greatest length; with no bytes behind it a sum stays. No condition. -/
import Derived.Test.YtkgnhdggfeiheaaCrcPick
namespace Go.Proofs.Ytkgnhdggfeiheaa
open Go.ChangeShapes Go.WideShapes Go.ChangeAt Go.RowKit
set_option linter.unusedVariables false

namespace crcZeros

theorem join_ok {n : Nat} (h : n ≤ 1073741824) : Crc.joinE (n : Int) = 0 := if_pos (by omega)
theorem join16_ok (x y : BitVec 16) {n : Nat} (h : n ≤ 1073741824) : Crc.joinV16 x y (n : Int) = y ^^^ Crc.it Crc.Z16 n (x ^^^ 0xffff#16) := by
  unfold Crc.joinV16
  rw [if_pos (by omega), Int.toNat_natCast]
  rfl
theorem join32_ok (x y : BitVec 32) {n : Nat} (h : n ≤ 1073741824) : Crc.joinV32 x y (n : Int) = y ^^^ Crc.it Crc.Z32 n x := by
  unfold Crc.joinV32
  rw [if_pos (by omega), Int.toNat_natCast]
  rfl
theorem low16 (r : BitVec 32) : IntKind.u16.wrap (r.toNat : Int) = ((BitVec.ofNat 16 r.toNat).toNat : Int) := by
  rw [IntKind.wrap_u16]
  rw [BitVec.toNat_ofNat]
  omega
set_option maxRecDepth 100000 in
set_option maxHeartbeats 1000000 in
theorem walk (x : Int) (hx : (Lit.int .u32 x).wf = true) (n : Int) (hn : (Lit.int .i64 n).wf = true) (m : Int) (hm : (Lit.int .i64 m).wf = true) (w : World) :
    Calls Try.prog 8 #[.int .u32 x, .int .i64 n, .int .i64 m] w fun e w' => e = .returned (.bool true) ∧ Below w.heap.size w w' := by
  obtain ⟨r, rfl⟩ := bounds32 hx
  have AW := Lib.hid (fun w => awake_any w)
  have PK := Lib.hid (fun w => pick_any n hn 536870912 (by omega) (by omega) w)
  have PL := Lib.hid (fun w => pick_any m hm 536870912 (by omega) (by omega) w)
  have hk : (n % ((536870912 : Nat) : Int)).toNat < 536870912 := by omega
  have hl : (m % ((536870912 : Nat) : Int)).toNat < 536870912 := by omega
  obtain ⟨k, ek⟩ : ∃ k, (n % ((536870912 : Nat) : Int)).toNat = k := ⟨_, rfl⟩
  obtain ⟨l, el⟩ : ∃ k, (m % ((536870912 : Nat) : Int)).toNat = k := ⟨_, rfl⟩
  rw [ek] at PK hk
  rw [el] at PL hl
  rw [show ((536870912 : Nat) : Int) = 536870912 from rfl] at PK PL
  clear ek el hx hn hm
  have k1 : k ≤ 1073741824 := by omega
  have l1 : l ≤ 1073741824 := by omega
  have kl : k + l ≤ 1073741824 := by omega
  have z1 : 0 ≤ 1073741824 := by omega
  have lo := low16 r
  obtain ⟨a, ha⟩ : ∃ a, BitVec.ofNat 16 r.toNat = a := ⟨_, rfl⟩
  rw [ha] at lo
  -- 32 bits
  have J1 := Lib.hid (fun w => join32_any r 0#32 k w)
  have J2 := Lib.hid (fun w => join32_any (Crc.it Crc.Z32 k r) 0#32 l w)
  have J3 := Lib.hid (fun w => join32_any r 0#32 (k + l : Nat) w)
  have J4 := Lib.hid (fun w => join32_any r 0#32 (0 : Nat) w)
  rw [join32_ok _ _ k1, BitVec.zero_xor, join_ok k1] at J1
  rw [join32_ok _ _ l1, BitVec.zero_xor, join_ok l1, ← Crc.it_add] at J2
  rw [join32_ok _ _ kl, BitVec.zero_xor, join_ok kl, Nat.add_comm k l] at J3
  rw [join32_ok _ _ z1, BitVec.zero_xor, join_ok z1, show Crc.it Crc.Z32 0 r = r from rfl] at J4
  -- 16 bits
  have K1 := Lib.hid (fun w => join16_any a 0#16 k w)
  have K2 := Lib.hid (fun w => join16_any (Crc.it Crc.Z16 k (a ^^^ 0xffff#16) ^^^ 0xffff#16) 0#16 l w)
  have K3 := Lib.hid (fun w => join16_any a 0#16 (k + l : Nat) w)
  have K4 := Lib.hid (fun w => join16_any a 0xffff#16 (0 : Nat) w)
  rw [join16_ok _ _ k1, BitVec.zero_xor, join_ok k1] at K1
  rw [join16_ok _ _ l1, BitVec.zero_xor, join_ok l1, BitVec.xor_assoc, BitVec.xor_self, BitVec.xor_zero, ← Crc.it_add] at K2
  rw [join16_ok _ _ kl, BitVec.zero_xor, join_ok kl, Nat.add_comm k l] at K3
  rw [join16_ok _ _ z1, join_ok z1, show Crc.it Crc.Z16 0 (a ^^^ 0xffff#16) = a ^^^ 0xffff#16 from rfl, BitVec.xor_comm a, ← BitVec.xor_assoc, BitVec.xor_self, BitVec.zero_xor] at K4
  have ex := xor16 (Crc.it Crc.Z16 k (a ^^^ 0xffff#16)) 0xffff#16
  rw [show ((0xffff#16).toNat : Int) = 65535 from rfl] at ex
  rw [show ((0xffff#16).toNat : Int) = 65535 from rfl] at K4
  rw [show ((0#16).toNat : Int) = 0 from rfl] at K1 K2 K3
  rw [show ((0#32).toNat : Int) = 0 from rfl] at J1 J2 J3 J4
  have ca : ((l + k : Nat) : Int) = (k : Int) + (l : Int) := by omega
  rw [ca] at J3 K3
  rw [show ((0 : Nat) : Int) = 0 from rfl] at J4 K4
  obtain ⟨x1, e1⟩ : ∃ v, (Crc.it Crc.Z32 k r).toNat = v := ⟨_, rfl⟩
  obtain ⟨x2, e2⟩ : ∃ v, (Crc.it Crc.Z32 (l + k) r).toNat = v := ⟨_, rfl⟩
  obtain ⟨p1, e3⟩ : ∃ v, (Crc.it Crc.Z16 k (a ^^^ 0xffff#16)).toNat = v := ⟨_, rfl⟩
  obtain ⟨p2, e4⟩ : ∃ v, (Crc.it Crc.Z16 k (a ^^^ 0xffff#16) ^^^ 0xffff#16).toNat = v := ⟨_, rfl⟩
  obtain ⟨p3, e5⟩ : ∃ v, (Crc.it Crc.Z16 (l + k) (a ^^^ 0xffff#16)).toNat = v := ⟨_, rfl⟩
  obtain ⟨X, e6⟩ : ∃ v, r.toNat = v := ⟨_, rfl⟩
  obtain ⟨a', e7⟩ : ∃ v, a.toNat = v := ⟨_, rfl⟩
  rw [e1] at J1 J2
  rw [e2] at J2 J3
  rw [e3] at K1 ex
  rw [e4] at K2 ex
  rw [e5] at K2 K3
  rw [e6] at J1 J3 J4 lo ⊢
  rw [e7] at K1 K3 K4 lo
  clear e1 e2 e3 e4 e5 e6 e7 ha ca
  go_enter Try.func8, Try.ntmps8
  go_wp2_with fail
  (with_reducible refine (PK.out _).mono ?_)
  rintro e w' ⟨rfl, rfl⟩
  go_wp2_with fail
  (with_reducible refine (PL.out _).mono ?_)
  rintro e w' ⟨rfl, rfl⟩
  go_wp2_with fail
  (with_reducible refine (J1.out _).mono ?_)
  rintro e w1 ⟨rfl, h1⟩
  have H1 := Lib.hid (h1)
  clear h1
  go_wp2_with fail
  (with_reducible refine (J2.out _).mono ?_)
  rintro e w2 ⟨rfl, h2⟩
  have H2 := Lib.hid (bt H1.out h2)
  clear h2 H1
  go_wp2_with fail
  (with_reducible refine (J3.out _).mono ?_)
  rintro e w3 ⟨rfl, h3⟩
  have H3 := Lib.hid (bt H2.out h3)
  clear h3 H2
  go_wp2_with fail
  (with_reducible refine (K1.out _).mono ?_)
  rintro e w4 ⟨rfl, h4⟩
  have H4 := Lib.hid (bt H3.out h4)
  clear h4 H3
  go_wp2_with fail
  (with_reducible refine (K2.out _).mono ?_)
  rintro e w5 ⟨rfl, h5⟩
  have H5 := Lib.hid (bt H4.out h5)
  clear h5 H4
  go_wp2_with fail
  (with_reducible refine (K3.out _).mono ?_)
  rintro e w6 ⟨rfl, h6⟩
  have H6 := Lib.hid (bt H5.out h6)
  clear h6 H5
  go_wp2_with fail
  (with_reducible refine (K4.out _).mono ?_)
  rintro e w7 ⟨rfl, h7⟩
  have H7 := Lib.hid (bt H6.out h7)
  clear h7 H6
  go_wp2_with fail
  (with_reducible refine (J4.out _).mono ?_)
  rintro e w8 ⟨rfl, h8⟩
  have H8 := Lib.hid (bt H7.out h8)
  clear h8 H7
  go_wp2_with fail
  (with_reducible refine (AW.out _).mono ?_)
  rintro e w9 ⟨rfl, h9⟩
  have H9 := Lib.hid (bt H8.out h9)
  clear h9 H8
  go_wp2_with fail
  go_ret
  exact ⟨rfl, H9.out⟩

set_option maxRecDepth 100000 in
theorem lifted (os : Os) (started : os.Started) (H : Type) (enc : TypeId × Value → H) :
    ReturnsInHanded {} Try.checked os 8 .any (Rows.crcZerosSpec.pre6 enc Try.prog Try.f8 Rows.crcZerosRow.domain false) (Rows.crcZerosSpec.post enc Try.prog Try.f8 false true false false) := by
  refine returnsInHanded_of_change (C := Try.checked) own started (by kernel_rfl) Try.func8
    (ChangeSpec.witness6 (enc := enc) (C := Try.checked) false ⟨#[], #[.int .u32 0, .int .i64 0, .int .i64 0], []⟩ 8 (by kernel_rfl) (by kernel_rfl) (by kernel_rfl) (by kernel_rfl)) ?_
  intro W base args ds gs before hval0 hW _ _
  have hval : ∀ (j : Nat) t v, Try.f8.params[j]? = some t → args[j]? = some v → Value.okWide Try.prog W .any base t v := hval0
  have hW' := hW
  obtain ⟨p, q, hA0, hV, rfl, hfz, hnd⟩ := hW
  have hA : DataW.TrodAll enc Try.prog W 0 (fun _ => true) true Try.f8.params.toList args.toList ds p := hA0
  rw [Try.params8] at hA hval
  obtain ⟨v0, vs0, d0, ds0, p0, q0, hargs, rfl, rfl, h0, r0⟩ := trodAll_cons hA
  obtain ⟨v1, vs1, d1, ds1, p1, q1, rfl, rfl, rfl, h1, r1⟩ := trodAll_cons r0
  obtain ⟨v2, vs2, d2, ds2, p2, q2, rfl, rfl, rfl, h2, r2⟩ := trodAll_cons r1
  obtain ⟨rfl, rfl, rfl⟩ := trodAll_nil r2
  obtain rfl : args = #[v0, v1, v2] := by cases args; simp_all
  obtain ⟨rfl, rfl⟩ := trodVars_none hV
  obtain ⟨a0, rfl, rfl, rfl, w0⟩ := open_int Try.underlying23 (hval 0 23 v0 rfl rfl) h0
  obtain ⟨a1, rfl, rfl, rfl, w1⟩ := open_int Try.underlying3 (hval 1 3 v1 rfl rfl) h1
  obtain ⟨a2, rfl, rfl, rfl, w2⟩ := open_int Try.underlying3 (hval 2 3 v2 rfl rfl) h2
  clear hA0 hval0
  simp only [List.append_nil] at hW'
  refine (walk a0 w0 a1 w1 a2 w2 W).mono fun e W' ⟨he, hg⟩ => ?_
  subst he
  exact ⟨_, rfl, post_of_below (pa := []) (pv := []) hW' (fun _ _ _ => trodAll_cons_mk (shut_bool Try.underlying4 _) trodAll_mk0) (fun sp _ => (trodAll_cons_mk (shut_int Try.underlying23 w0) (trodAll_cons_mk (shut_int Try.underlying3 w1) (trodAll_cons_mk (shut_int Try.underlying3 w2) trodAll_mk0)))) (fun _ _ => rfl) rfl
    hg (ok_one (by kernel_rfl) rfl (okWide_bool_mk Try.underlying4 _))⟩

theorem proved : Rows.CrcZerosSaid :=
  OpenClaim.holds_of_wide 8 Try.f8 rfl rfl rfl rfl rfl rfl rfl ⟨rfl, rfl, rfl, rfl, rfl⟩ rfl rfl rfl rfl rfl (by kernel_rfl) Try.func8 (by kernel_rfl)
    (of_decide_eq_true (by kernel_rfl)) (by unfold Func.isWrapper; first | (rw [if_pos (by decide +kernel)]; kernel_rfl) | (rw [if_neg (by decide +kernel)]; exact ⟨rfl, rfl⟩))
    (fun os started H enc _ => lifted os started H enc)
#print axioms proved
end crcZeros
end Go.Proofs.Ytkgnhdggfeiheaa
