/- ConvolLinear: the exclusive or of the symbol lists of any three messages of the same length (of at most 1000 bytes) is the symbol list of the exclusive or of the messages. No condition. -/
import Derived.Test.YtcigbnhlgboeoaaRowKit
import Derived.Test.YtcigbnhlgboeoaaCvFill
namespace Go.Proofs.Ytcigbnhlgboeoaa
open Go.ChangeShapes Go.WideShapes Go.ChangeAt Go.RowKit
set_option linter.unusedVariables false

namespace convolLinear
theorem enc_size (s : ByteArray) (n : Nat) : (encS s n).size = 16 * n + 12 := coefs_size _ _
theorem mb_congr {f g : Nat → BitVec 8} {n : Nat} (h : ∀ p, p < n → f p = g p) (i : Nat) : Cv.mb f n i = Cv.mb g n i := by
  unfold Cv.mb
  by_cases e : i < 8 * n
  · rw [if_pos e, if_pos e, h (i / 8) (by omega)]
  · rw [if_neg e, if_neg e]
theorem max3 (ts : Array TypeId) (t : TypeId) (x y z m : Nat) (h : max (max x y) z = m) (w : World) : (Builtin.max_ ts t #[.int .i64 (x : Nat), .int .i64 (y : Nat), .int .i64 (z : Nat)]).run Try.prog w = .ok (.int .i64 (m : Nat)) w := by
  have e : (Builtin.max_ ts t #[.int .i64 (x : Nat), .int .i64 (y : Nat), .int .i64 (z : Nat)]).run Try.prog w = .ok (.int .i64 (if (z : Int) > (if (y : Int) > (x : Int) then (y : Int) else (x : Int)) then (z : Int) else (if (y : Int) > (x : Int) then (y : Int) else (x : Int)))) w := by
    simp [Builtin.max_, Builtin.max2]
  rw [e]
  congr 2
  split <;> split at * <;> omega
/-- Linearity, of strings. -/
theorem linear (a b c : ByteArray) (n : Nat) : xor3 (encS a n) (encS b n) (encS c n) (16 * n + 12) = encS (xor3 a b c n) n := by
  unfold encS xor3
  congr 2
  refine Gal.coefs_congr (fun i hi => ?_)
  show Gal.co (Gal.coefs _ _) i ^^^ Gal.co (Gal.coefs _ _) i ^^^ Gal.co (Gal.coefs _ _) i = symB (Cv.mb (Gal.co (Gal.coefs _ _)) n) i
  rw [Gal.co_coefs, Gal.co_coefs, Gal.co_coefs, if_pos hi, if_pos hi, if_pos hi]
  apply BitVec.eq_of_toNat_eq
  rw [BitVec.toNat_xor, BitVec.toNat_xor, symB_nat, symB_nat, symB_nat, symB_nat, ← Cv.sym_lin (fun i => Cv.mb_lt _ n i) (fun i => Cv.mb_lt _ n i) (fun i => Cv.mb_lt _ n i)]
  congr 1
  funext j
  rw [← Cv.mb_lin]
  exact mb_congr (fun p hp => by rw [Gal.co_coefs, if_pos hp]) j
set_option maxRecDepth 100000 in
set_option maxHeartbeats 1000000 in
theorem walk (a : ByteArray) (ha : a.size ≤ maxLen) (b : ByteArray) (hb : b.size ≤ maxLen) (c : ByteArray) (hc : c.size ≤ maxLen) (w : World) :
    Calls Try.prog 5 #[.string a, .string b, .string c] w fun e w' => e = .returned (.bool true) ∧ Below w.heap.size w w' := by
  unfold maxLen at ha hb hc
  obtain ⟨la, hla⟩ : ∃ n, a.size = n := ⟨_, rfl⟩
  obtain ⟨lb, hlb⟩ : ∃ n, b.size = n := ⟨_, rfl⟩
  obtain ⟨lc, hlc⟩ : ∃ n, c.size = n := ⟨_, rfl⟩
  obtain ⟨K, hK⟩ : ∃ n, max la lb = n := ⟨_, rfl⟩
  obtain ⟨M, hM⟩ : ∃ n, max K lc = n := ⟨_, rfl⟩
  obtain ⟨n, hn⟩ : ∃ n, min 1000 M = n := ⟨_, rfl⟩
  have n1 : n ≤ 1000 := by omega
  have MX := Lib.hid (fun w => max3 #[3, 3, 3] 3 la lb lc M (by rw [hK]; exact hM) w)
  have M9 : M ≤ 9223372036854775807 := by unfold maxLen at *; omega
  have m3 : min (1000 : Int) (M : Int) = (n : Int) := by omega
  have AW := Lib.hid (fun w => awake_any w)
  have F1 := Lib.hid (fun w => filled_any a n n1 (by omega) w)
  have F2 := Lib.hid (fun w => filled_any b n n1 (by omega) w)
  have F3 := Lib.hid (fun w => filled_any c n n1 (by omega) w)
  have sa := fil_size a n
  have sb := fil_size b n
  have sc := fil_size c n
  rw [hla] at ha
  rw [hlb] at hb
  rw [hlc] at hc
  obtain ⟨A, hA⟩ : ∃ x, fil a n = x := ⟨_, rfl⟩
  obtain ⟨B, hB⟩ : ∃ x, fil b n = x := ⟨_, rfl⟩
  obtain ⟨C, hC⟩ : ∃ x, fil c n = x := ⟨_, rfl⟩
  rw [hA] at F1 sa
  rw [hB] at F2 sb
  rw [hC] at F3 sc
  have E1 := Lib.hid (fun w => encode_any A n sa (by omega) w)
  have E2 := Lib.hid (fun w => encode_any B n sb (by omega) w)
  have E3 := Lib.hid (fun w => encode_any C n sc (by omega) w)
  have G1 := Lib.hid (fun w => combined_any A B C n sa sb sc (by omega) w)
  have sX := enc_size A n
  have sY := enc_size B n
  have sZ := enc_size C n
  have G2 := Lib.hid (fun w => combined_any (encS A n) (encS B n) (encS C n) (16 * n + 12) sX sY sZ (by omega) w)
  have sD : (xor3 A B C n).size = n := coefs_size _ _
  have E4 := Lib.hid (fun w => encode_any (xor3 A B C n) n sD (by omega) w)
  rw [linear] at G2
  have SY := Lib.hid (fun w => symbols_any (n : Int) w)
  rw [show symN (n : Int) = ((16 * n + 12 : Nat) : Int) by unfold symN; rw [if_neg (by omega)]; omega] at SY
  obtain ⟨D, hD⟩ : ∃ x, xor3 A B C n = x := ⟨_, rfl⟩
  rw [hD] at G1 G2 E4 sD
  obtain ⟨X, hX⟩ : ∃ x, encS A n = x := ⟨_, rfl⟩
  obtain ⟨Y, hY⟩ : ∃ x, encS B n = x := ⟨_, rfl⟩
  obtain ⟨Z, hZ⟩ : ∃ x, encS C n = x := ⟨_, rfl⟩
  obtain ⟨W, hW⟩ : ∃ x, encS D n = x := ⟨_, rfl⟩
  rw [hX] at E1 sX G2
  rw [hY] at E2 sY G2
  rw [hZ] at E3 sZ G2
  rw [hW] at E4 G2
  have ee : (W == W) = true := by show (W.data == W.data) = true; simp
  obtain ⟨N, hN⟩ : ∃ N, 16 * n + 12 = N := ⟨_, rfl⟩
  rw [hN] at sX sY sZ SY
  have N2 : N ≤ 16012 := by omega
  clear hA hB hC hX hY hZ hD hW hN hM hn hK sD
  go_enter Try.func5, Try.ntmps5
  go_wp2_with (simp only [MX.out])
  (with_reducible refine (F1.out _).mono ?_)
  rintro e w1 ⟨rfl, h1⟩
  have H1 := Lib.hid (h1)
  clear h1
  go_wp2_with fail
  (with_reducible refine (F2.out _).mono ?_)
  rintro e w2 ⟨rfl, h2⟩
  have H2 := Lib.hid (bt H1.out h2)
  clear h2 H1
  go_wp2_with fail
  (with_reducible refine (F3.out _).mono ?_)
  rintro e w3 ⟨rfl, h3⟩
  have H3 := Lib.hid (bt H2.out h3)
  clear h3 H2
  go_wp2_with fail
  (with_reducible refine (E1.out _).mono ?_)
  rintro e w4 ⟨rfl, h4⟩
  have H4 := Lib.hid (bt H3.out h4)
  clear h4 H3
  go_wp2_with fail
  (with_reducible refine (E2.out _).mono ?_)
  rintro e w5 ⟨rfl, h5⟩
  have H5 := Lib.hid (bt H4.out h5)
  clear h5 H4
  go_wp2_with fail
  (with_reducible refine (E3.out _).mono ?_)
  rintro e w6 ⟨rfl, h6⟩
  have H6 := Lib.hid (bt H5.out h6)
  clear h6 H5
  go_wp2_with fail
  (with_reducible refine (G1.out _).mono ?_)
  rintro e w7 ⟨rfl, h7⟩
  have H7 := Lib.hid (bt H6.out h7)
  clear h7 H6
  go_wp2_with fail
  (with_reducible refine (E4.out _).mono ?_)
  rintro e w8 ⟨rfl, h8⟩
  have H8 := Lib.hid (bt H7.out h8)
  clear h8 H7
  go_wp2_with fail
  (with_reducible refine (SY.out _).mono ?_)
  rintro e w' ⟨rfl, rfl⟩
  go_wp2_with fail
  (with_reducible refine (G2.out _).mono ?_)
  rintro e w9 ⟨rfl, h9⟩
  have H9 := Lib.hid (bt H8.out h9)
  clear h9 H8
  go_wp2_with fail
  (with_reducible refine (AW.out _).mono ?_)
  rintro e w10 ⟨rfl, h10⟩
  have H10 := Lib.hid (bt H9.out h10)
  clear h10 H9
  go_wp2_with fail
  go_ret
  exact ⟨rfl, H10.out⟩

set_option maxRecDepth 100000 in
theorem lifted (os : Os) (started : os.Started) (H : Type) (enc : TypeId × Value → H) :
    ReturnsInHanded {} Try.checked os 5 .any (Rows.convolLinearSpec.pre6 enc Try.prog Try.f5 Rows.convolLinearRow.domain false) (Rows.convolLinearSpec.post enc Try.prog Try.f5 false true false false) := by
  refine returnsInHanded_of_change (C := Try.checked) own started (by kernel_rfl) Try.func5
    (ChangeSpec.witness6 (enc := enc) (C := Try.checked) false ⟨#[], #[.string { data := #[] }, .string { data := #[] }, .string { data := #[] }], []⟩ 8 (by kernel_rfl) (by kernel_rfl) (by kernel_rfl) (by kernel_rfl)) ?_
  intro W base args ds gs before hval0 hW _ _
  have hval : ∀ (j : Nat) t v, Try.f5.params[j]? = some t → args[j]? = some v → Value.okWide Try.prog W .any base t v := hval0
  have hW' := hW
  obtain ⟨p, q, hA0, hV, rfl, hfz, hnd⟩ := hW
  have hA : DataW.TrodAll enc Try.prog W 0 (fun _ => true) true Try.f5.params.toList args.toList ds p := hA0
  rw [Try.params5] at hA hval
  obtain ⟨v0, vs0, d0, ds0, p0, q0, hargs, rfl, rfl, h0, r0⟩ := trodAll_cons hA
  obtain ⟨v1, vs1, d1, ds1, p1, q1, rfl, rfl, rfl, h1, r1⟩ := trodAll_cons r0
  obtain ⟨v2, vs2, d2, ds2, p2, q2, rfl, rfl, rfl, h2, r2⟩ := trodAll_cons r1
  obtain ⟨rfl, rfl, rfl⟩ := trodAll_nil r2
  obtain rfl : args = #[v0, v1, v2] := by cases args; simp_all
  obtain ⟨rfl, rfl⟩ := trodVars_none hV
  obtain ⟨a0, rfl, rfl, rfl, w0⟩ := ChangeMaps.open_string Try.underlying9 (hval 0 9 v0 rfl rfl) h0
  obtain ⟨a1, rfl, rfl, rfl, w1⟩ := ChangeMaps.open_string Try.underlying9 (hval 1 9 v1 rfl rfl) h1
  obtain ⟨a2, rfl, rfl, rfl, w2⟩ := ChangeMaps.open_string Try.underlying9 (hval 2 9 v2 rfl rfl) h2
  clear hA0 hval0
  simp only [List.append_nil] at hW'
  refine (walk a0 w0 a1 w1 a2 w2 W).mono fun e W' ⟨he, hg⟩ => ?_
  subst he
  exact ⟨_, rfl, post_of_below (pa := []) (pv := []) hW' (fun _ _ _ => trodAll_cons_mk (shut_bool Try.underlying4 _) trodAll_mk0) (fun sp _ => (trodAll_cons_mk (ChangeMaps.shut_string Try.underlying9 w0) (trodAll_cons_mk (ChangeMaps.shut_string Try.underlying9 w1) (trodAll_cons_mk (ChangeMaps.shut_string Try.underlying9 w2) trodAll_mk0)))) (fun _ _ => rfl) rfl
    hg (ok_one (by kernel_rfl) rfl (okWide_bool_mk Try.underlying4 _))⟩

theorem proved : Rows.ConvolLinearSaid :=
  OpenClaim.holds_of_wide 5 Try.f5 rfl rfl rfl rfl rfl rfl rfl ⟨rfl, rfl, rfl, rfl, rfl⟩ rfl rfl rfl rfl rfl (by kernel_rfl) Try.func5 (by kernel_rfl)
    (of_decide_eq_true (by kernel_rfl)) (by unfold Func.isWrapper; first | (rw [if_pos (by decide +kernel)]; kernel_rfl) | (rw [if_neg (by decide +kernel)]; exact ⟨rfl, rfl⟩))
    (fun os started H enc _ => lifted os started H enc)
#print axioms proved
end convolLinear
end Go.Proofs.Ytcigbnhlgboeoaa
