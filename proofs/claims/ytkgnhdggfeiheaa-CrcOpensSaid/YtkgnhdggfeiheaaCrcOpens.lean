/- CrcOpens: of all strings of at most 5000 bytes, Close16 and Open16 return what the document says; Open16 inverts Close16, and refuses it after any bit is inverted. No condition. -/
import Derived.Test.YtkgnhdggfeiheaaCrcFlip
namespace Go.Proofs.Ytkgnhdggfeiheaa
open Go.ChangeShapes Go.WideShapes Go.ChangeAt Go.RowKit
set_option linter.unusedVariables false
namespace Crc
theorem getD_app (l t : List UInt8) (i : Nat) (h : i < l.length) : (l ++ t).getD i 0 = l.getD i 0 := by simp [List.getD, List.getElem?_append_left h]
theorem getD_app2 (l t : List UInt8) (i : Nat) : (l ++ t).getD (l.length + i) 0 = t.getD i 0 := by
  unfold List.getD
  rw [List.getElem?_append_right (by omega), Nat.add_sub_cancel_left]
theorem getD_take (l : List UInt8) (n i : Nat) (h : i < n) : (l.take n).getD i 0 = l.getD i 0 := by simp [List.getD, List.getElem?_take_of_lt h]
theorem close_take (l : List UInt8) : (close l).take l.length = l := by unfold close; simp
theorem open_close (l : List UInt8) : openE (close l) = 0 ∧ openV (close l) = l := by
  have e : openE (close l) = 0 := by
    unfold openE
    rw [close_length, if_neg]
    rw [show l.length + 2 - 2 = l.length by omega, close_take]
    intro h
    rcases h with h | h
    · omega
    · exact h rfl
  refine ⟨e, ?_⟩
  unfold openV
  rw [if_pos e, close_length, show l.length + 2 - 2 = l.length by omega, close_take]
theorem same_sum (x y : BitVec 16) (h1 : UInt8.ofNat (x.toNat / 256) = UInt8.ofNat (y.toNat / 256)) (h2 : UInt8.ofNat (x.toNat % 256) = UInt8.ofNat (y.toNat % 256)) : x = y := by
  have a := x.isLt
  have b := y.isLt
  have g1 := congrArg UInt8.toNat h1
  have g2 := congrArg UInt8.toNat h2
  rw [UInt8.toNat_ofNat_of_lt' (by show _ < 256; omega), UInt8.toNat_ofNat_of_lt' (by show _ < 256; omega)] at g1
  rw [UInt8.toNat_ofNat_of_lt' (by show _ < 256; omega), UInt8.toNat_ofNat_of_lt' (by show _ < 256; omega)] at g2
  exact BitVec.eq_of_toNat_eq (by omega)
theorem close_flip (l : List UInt8) (k : Nat) (hk : k < 8 * (l.length + 2)) : close ((flipped (close l) k).take l.length) ≠ flipped (close l) k := by
  have cl := close_length l
  have fb : ∀ q, hb (flipped (close l) k) q = (hb (close l) q != decide (q = k)) := fun q => hb_inv (close l) k q (by rw [cl]; exact hk)
  have fl : (flipped (close l) k).length = l.length + 2 := by unfold flipped; rw [inv_length, cl]
  have fo : ∀ i, i ≠ k / 8 → (flipped (close l) k).getD i 0 = (close l).getD i 0 := fun i hi => inv_off (close l) i (k / 8) _ hi
  intro h
  generalize hs : flipped (close l) k = s at *
  have bl : (s.take l.length).length = l.length := by rw [List.length_take, fl]; omega
  by_cases c : k < 8 * l.length
  · have t0 := fo (l.length + 0) (by omega)
    have t1 := fo (l.length + 1) (by omega)
    rw [← h] at t0 t1
    have e0 : (close (s.take l.length)).getD (l.length + 0) 0 = UInt8.ofNat ((sum16 (s.take l.length)).toNat / 256) := by
      have := getD_app2 (s.take l.length) [UInt8.ofNat ((sum16 (s.take l.length)).toNat / 256), UInt8.ofNat ((sum16 (s.take l.length)).toNat % 256)] 0
      rw [bl] at this
      exact this
    have e1 : (close (s.take l.length)).getD (l.length + 1) 0 = UInt8.ofNat ((sum16 (s.take l.length)).toNat % 256) := by
      have := getD_app2 (s.take l.length) [UInt8.ofNat ((sum16 (s.take l.length)).toNat / 256), UInt8.ofNat ((sum16 (s.take l.length)).toNat % 256)] 1
      rw [bl] at this
      exact this
    have f0 : (close l).getD (l.length + 0) 0 = UInt8.ofNat ((sum16 l).toNat / 256) := getD_app2 l _ 0
    have f1 : (close l).getD (l.length + 1) 0 = UInt8.ofNat ((sum16 l).toNat % 256) := getD_app2 l _ 1
    rw [e0, f0] at t0
    rw [e1, f1] at t1
    have ss := same_sum _ _ t0 t1
    have bits : ∀ q, q < 8 * l.length → hb (s.take l.length) q = (hb l q != decide (q = k)) := by
      intro q hq
      have a : hb (s.take l.length) q = hb s q := by unfold hb; rw [getD_take _ _ _ (by omega)]
      have b : hb (close l) q = hb l q := by unfold hb close; rw [getD_app _ _ _ (by omega)]
      rw [a, fb q, b]
    have eq := window16 (s.take l.length) l bl k 1 (by omega) (by rw [bl]; omega) (fun q hq hw => by
      rw [bl] at hq
      rw [bits q hq, decide_eq_false (by omega), Bool.bne_false]) ss
    have bk := bits k c
    rw [eq, decide_eq_true rfl] at bk
    cases hh : hb l k <;> rw [hh] at bk <;> simp at bk
  · have tk : s.take l.length = l := by
      apply List.ext_getElem bl
      intro i h1 h2
      have a := getD_take s l.length i h2
      rw [fo i (by omega)] at a
      have b : (close l).getD i 0 = l.getD i 0 := getD_app _ _ _ h2
      rw [b] at a
      simpa [List.getD, List.getElem?_eq_getElem h1, List.getElem?_eq_getElem h2] using a
    rw [tk] at h
    have bk := fb k
    rw [← h, decide_eq_true rfl] at bk
    cases hh : hb (close l) k <;> rw [hh] at bk <;> simp at bk
theorem open_flip (l : List UInt8) (k : Nat) (hk : k < 8 * (l.length + 2)) : openE (flipped (close l) k) = 6 ∧ openV (flipped (close l) k) = [] := by
  have fl : (flipped (close l) k).length = l.length + 2 := by unfold flipped; rw [inv_length, close_length]
  have e : openE (flipped (close l) k) = 6 := by
    unfold openE
    rw [fl, show l.length + 2 - 2 = l.length by omega, if_pos (.inr (close_flip l k hk))]
  exact ⟨e, if_neg (by rw [e]; omega)⟩
end Crc

namespace crcOpens

set_option maxRecDepth 100000 in
set_option maxHeartbeats 1000000 in
theorem walk (s : ByteArray) (hs : s.size ≤ maxLen) (p : Int) (hp : (Lit.int .i64 p).wf = true) (w : World) :
    Calls Try.prog 7 #[.string s, .int .i64 p] w fun e w' => e = .returned (.bool true) ∧ Below w.heap.size w w' := by
  unfold maxLen at hs
  have AW := Lib.hid (fun w => awake_any w)
  by_cases h1 : 5000 < s.size
  · clear hp
    go_enter Try.func7, Try.ntmps7
    go_wp2_with fail
    (with_reducible refine (AW.out _).mono ?_)
    rintro e w1 ⟨rfl, h1⟩
    go_wp2_with fail
    go_ret
    exact ⟨rfl, h1⟩
  have h1' : decide ((5000 : Int) < (s.size : Int)) = false := by simp; omega
  have ls : s.data.toList.length = s.size := by simp
  obtain ⟨S, hS⟩ : ∃ S : ByteArray, (⟨(Crc.close s.data.toList).toArray⟩ : ByteArray) = S := ⟨_, rfl⟩
  have Sl : S.data.toList = Crc.close s.data.toList := by rw [← hS]
  have Sn : S.size = s.size + 2 := by
    have : S.data.toList.length = S.size := by simp
    rw [← this, Sl, Crc.close_length, ls]
  have A1 := Lib.hid (fun w => close16_any s (by omega) w)
  have A2 := Lib.hid (fun w => open16_any S (by omega) w)
  have A3 := Lib.hid (fun w => open16_any s (by omega) w)
  have A4 := Lib.hid (fun w => ropen16_any s (by omega) w)
  have A5 := Lib.hid (fun w => rclose16_any s (by omega) w)
  have A6 := Lib.hid (fun w => kflip_any S (s.size + 2) Sn (by omega) (by omega) p hp w)
  obtain ⟨oe, ov⟩ := Crc.open_close s.data.toList
  rw [hS] at A1 A5
  rw [Sl, oe, ov, bytes_self] at A2
  have kl := bitOf_lt (s.size + 2) p (by omega)
  rw [Sl] at A6
  obtain ⟨k, hk⟩ : ∃ k, bitOf (s.size + 2) p = k := ⟨_, rfl⟩
  rw [hk] at A6 kl
  obtain ⟨fe, fv⟩ := Crc.open_flip s.data.toList k (by rw [ls]; exact kl)
  have fl : (flipped (Crc.close s.data.toList) k).length = s.size + 2 := by unfold flipped; rw [Crc.inv_length, Crc.close_length, ls]
  obtain ⟨T, hT⟩ : ∃ T : ByteArray, (⟨(flipped (Crc.close s.data.toList) k).toArray⟩ : ByteArray) = T := ⟨_, rfl⟩
  have Tl : T.data.toList = flipped (Crc.close s.data.toList) k := by rw [← hT]
  have Tn : T.size = s.size + 2 := by
    have : T.data.toList.length = T.size := by simp
    rw [← this, Tl, fl]
  have A7 := Lib.hid (fun w => open16_any T (by omega) w)
  rw [Tl, fe, fv] at A7
  rw [hT] at A6
  obtain ⟨V, hV⟩ : ∃ V : ByteArray, (⟨(Crc.openV s.data.toList).toArray⟩ : ByteArray) = V := ⟨_, rfl⟩
  obtain ⟨E, hE⟩ : ∃ V, Crc.openE s.data.toList = V := ⟨_, rfl⟩
  rw [hV, hE] at A3 A4
  have q1 : (s == s) = true := by show (s.data == s.data) = true; simp
  have q2 : (S == S) = true := by show (S.data == S.data) = true; simp
  have q3 : (V == V) = true := by show (V.data == V.data) = true; simp
  clear hS Sl oe ov kl hk fe fv fl hT Tl hV hE ls hp Sn Tn
  go_enter Try.func7, Try.ntmps7
  go_wp2_with fail
  (with_reducible refine (A1.out _).mono ?_)
  rintro e w1 ⟨rfl, h1⟩
  have H1 := Lib.hid (h1)
  clear h1
  go_wp2_with fail
  (with_reducible refine (A2.out _).mono ?_)
  rintro e w2 ⟨rfl, h2⟩
  have H2 := Lib.hid (bt H1.out h2)
  clear h2 H1
  go_wp2_with fail
  (with_reducible refine (A3.out _).mono ?_)
  rintro e w3 ⟨rfl, h3⟩
  have H3 := Lib.hid (bt H2.out h3)
  clear h3 H2
  go_wp2_with fail
  (with_reducible refine (A4.out _).mono ?_)
  rintro e w4 ⟨rfl, h4⟩
  have H4 := Lib.hid (bt H3.out h4)
  clear h4 H3
  go_wp2_with fail
  (with_reducible refine (A5.out _).mono ?_)
  rintro e w5 ⟨rfl, h5⟩
  have H5 := Lib.hid (bt H4.out h5)
  clear h5 H4
  go_wp2_with fail
  (with_reducible refine (A6.out _).mono ?_)
  rintro e w6 ⟨rfl, h6⟩
  have H6 := Lib.hid (bt H5.out h6)
  clear h6 H5
  go_wp2_with fail
  (with_reducible refine (A7.out _).mono ?_)
  rintro e w7 ⟨rfl, h7⟩
  have H7 := Lib.hid (bt H6.out h7)
  clear h7 H6
  go_wp2_with fail
  (with_reducible refine (AW.out _).mono ?_)
  rintro e w8 ⟨rfl, h8⟩
  have H8 := Lib.hid (bt H7.out h8)
  clear h8 H7
  go_wp2_with fail
  go_ret
  exact ⟨rfl, H8.out⟩

set_option maxRecDepth 100000 in
theorem lifted (os : Os) (started : os.Started) (H : Type) (enc : TypeId × Value → H) :
    ReturnsInHanded {} Try.checked os 7 .any (Rows.crcOpensSpec.pre6 enc Try.prog Try.f7 Rows.crcOpensRow.domain false) (Rows.crcOpensSpec.post enc Try.prog Try.f7 false true false false) := by
  refine returnsInHanded_of_change (C := Try.checked) own started (by kernel_rfl) Try.func7
    (ChangeSpec.witness6 (enc := enc) (C := Try.checked) false ⟨#[], #[.string { data := #[] }, .int .i64 0], []⟩ 8 (by kernel_rfl) (by kernel_rfl) (by kernel_rfl) (by kernel_rfl)) ?_
  intro W base args ds gs before hval0 hW _ _
  have hval : ∀ (j : Nat) t v, Try.f7.params[j]? = some t → args[j]? = some v → Value.okWide Try.prog W .any base t v := hval0
  have hW' := hW
  obtain ⟨p, q, hA0, hV, rfl, hfz, hnd⟩ := hW
  have hA : DataW.TrodAll enc Try.prog W 0 (fun _ => true) true Try.f7.params.toList args.toList ds p := hA0
  rw [Try.params7] at hA hval
  obtain ⟨v0, vs0, d0, ds0, p0, q0, hargs, rfl, rfl, h0, r0⟩ := trodAll_cons hA
  obtain ⟨v1, vs1, d1, ds1, p1, q1, rfl, rfl, rfl, h1, r1⟩ := trodAll_cons r0
  obtain ⟨rfl, rfl, rfl⟩ := trodAll_nil r1
  obtain rfl : args = #[v0, v1] := by cases args; simp_all
  obtain ⟨rfl, rfl⟩ := trodVars_none hV
  obtain ⟨a0, rfl, rfl, rfl, w0⟩ := ChangeMaps.open_string Try.underlying9 (hval 0 9 v0 rfl rfl) h0
  obtain ⟨a1, rfl, rfl, rfl, w1⟩ := open_int Try.underlying3 (hval 1 3 v1 rfl rfl) h1
  clear hA0 hval0
  simp only [List.append_nil] at hW'
  refine (walk a0 w0 a1 w1 W).mono fun e W' ⟨he, hg⟩ => ?_
  subst he
  exact ⟨_, rfl, post_of_below (pa := []) (pv := []) hW' (fun _ _ _ => trodAll_cons_mk (shut_bool Try.underlying4 _) trodAll_mk0) (fun sp _ => (trodAll_cons_mk (ChangeMaps.shut_string Try.underlying9 w0) (trodAll_cons_mk (shut_int Try.underlying3 w1) trodAll_mk0))) (fun _ _ => rfl) rfl
    hg (ok_one (by kernel_rfl) rfl (okWide_bool_mk Try.underlying4 _))⟩

theorem proved : Rows.CrcOpensSaid :=
  OpenClaim.holds_of_wide 7 Try.f7 rfl rfl rfl rfl rfl rfl rfl ⟨rfl, rfl, rfl, rfl, rfl⟩ rfl rfl rfl rfl rfl (by kernel_rfl) Try.func7 (by kernel_rfl)
    (of_decide_eq_true (by kernel_rfl)) (by unfold Func.isWrapper; first | (rw [if_pos (by decide +kernel)]; kernel_rfl) | (rw [if_neg (by decide +kernel)]; exact ⟨rfl, rfl⟩))
    (fun os started H enc _ => lifted os started H enc)
#print axioms proved
end crcOpens
end Go.Proofs.Ytkgnhdggfeiheaa
