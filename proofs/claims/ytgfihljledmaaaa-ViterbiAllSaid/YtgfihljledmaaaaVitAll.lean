/- ViterbiAll: of all 256 messages of one byte, the one that Decode returns has the greatest sum, and is the least of those that have it. No condition. -/
import Derived.Test.YtgfihljledmaaaaRowKit
import Derived.Test.YtgfihljledmaaaaVitAwake
import Derived.Test.YtgfihljledmaaaaVitCor
import Derived.Test.YtgfihljledmaaaaPickKit
namespace Go.Proofs.Ytgfihljledmaaaa
open Go.ChangeShapes Go.WideShapes Go.ChangeAt Go.RowKit
set_option linter.unusedVariables false

namespace viterbiAll
theorem cells_i8 : Try.prog.cellsOf 59 = 1 := by kernel_rfl
/-- The best of the messages of one byte that were tried. -/
def Tried (f : Nat → Int) (i : Nat) (s : ByteArray) (z : Int) : Prop := (i = 0 ∧ s = ⟨#[]⟩ ∧ z = 0) ∨ ∃ b, b < i ∧ s = b1 b ∧ z = s1 f b ∧ ∀ j, j < i → s1 f j < s1 f b ∨ (s1 f j = s1 f b ∧ b ≤ j)
theorem tried_keep {f : Nat → Int} {i : Nat} {s : ByteArray} {z : Int} (hi : 0 < i) (h : Tried f i s z) (hz : s1 f i ≤ z) : Tried f (i + 1) s z := by
  rcases h with ⟨h0, _⟩ | ⟨b, hb, e1, e2, ht⟩
  · omega
  · refine .inr ⟨b, by omega, e1, e2, fun j hj => ?_⟩
    by_cases q : j = i
    · subst q
      rw [e2] at hz
      omega
    · exact ht j (by omega)
theorem tried_new {f : Nat → Int} {i : Nat} {s : ByteArray} {z : Int} (h : Tried f i s z) (hz : i = 0 ∨ z < s1 f i) : Tried f (i + 1) (b1 i) (s1 f i) := by
  refine .inr ⟨i, by omega, rfl, rfl, fun j hj => ?_⟩
  by_cases q : j = i
  · subst q
    exact .inr ⟨rfl, Nat.le_refl _⟩
  · rcases h with ⟨h0, _⟩ | ⟨b, hb, e1, e2, ht⟩
    · omega
    · have := ht j (by omega)
      rw [e2] at hz
      omega
theorem byte_arg {x : Int} (h : (Lit.int .u8 x).wf = true) : ∃ u : Nat, u < 256 ∧ x = (u : Int) := by
  have := bounds_u8 h
  exact ⟨x.toNat, by omega, by omega⟩
set_option maxRecDepth 100000 in
set_option maxHeartbeats 1000000 in
theorem walk (x : Int) (hx : (Lit.int .u8 x).wf = true) (ao : Option Addr) (cap : Nat) (zs : List Int) (hl : zs.length ≤ cap) (hm : cap ≤ maxLen) (hw : ∀ n ∈ zs, (Lit.int .i8 n).wf = true) (w : World) (hr : Reads .i8 w ao zs) :
    Calls Try.prog 6 #[.int .u8 x, .slice ao zs.length cap] w fun e w' => e = .returned (.bool true) ∧ Below w.heap.size w w' := by
  unfold maxLen at hm
  have AW := Lib.hid (fun w => awake_any w)
  have R0 := Lib.hid (noise_arg hr hw)
  obtain ⟨u, hu, rfl⟩ := byte_arg hx
  obtain ⟨K, hK⟩ : ∃ N, zs.length = N := ⟨_, rfl⟩
  rw [hK] at hl ⊢
  clear hr hw hx
  by_cases h2 : 5000 < K
  · have h2' : decide ((5000 : Int) < (K : Int)) = true := by simp; omega
    clear R0
    go_enter Try.func6, Try.ntmps6
    go_wp2_with fail
    (with_reducible refine (AW.out _).mono ?_)
    rintro e w1 ⟨rfl, h1⟩
    go_wp2_with fail
    go_ret
    exact ⟨rfl, h1⟩
  have h2' : decide ((5000 : Int) < (K : Int)) = false := by simp; omega
  have C0 := Lib.hid (byte_new u hu w)
  have B0 := Lib.hid (ba (Below.refl w.heap.size w) (.cells #[.int .u8 (u : Nat)] 5))
  have RC := Lib.hid (received_any (b1 u) 1 (b1_size u) (by omega) ao cap zs K hK (by omega) _ (R0.out.below B0.out))
  clear R0 hK
  go_enter Try.func6, Try.ntmps6
  go_wp2_with (simp only [C0.out])
  (with_reducible refine RC.out.mono ?_)
  rintro e w1 ⟨lb, lc, f, rfl, ge, iw, so, hb1⟩
  have B1 := Lib.hid (bt B0.out hb1)
  have I1 := Lib.hid (show Ints w1 (some ⟨lb, 0, none⟩) (zof f 28) from iw.ints)
  have so : ∀ i, i < 28 → sOk (f i) := so
  have P := Lib.hid (fun w R => decode_any (some ⟨lb, 0, none⟩) lc (zof f 28) 28 (zof_len _ _) (by omega) (1 : Int) w R ge.2)
  have OK := Lib.hid (show dcOk (zof f 28) (1 : Int) from dcOk_of (n := 1) (by omega) (zof_len _ _) (softOk_zof so))
  have SC := Lib.hid (show ∀ j, j < 256 → ∀ w, Ints w (some ⟨lb, 0, none⟩) (zof f 28) → Calls Try.prog 14 #[.slice (some ⟨lb, 0, none⟩) 28 lc, .string (b1 j)] w fun e w' => e = .returned (.tuple #[.int .i64 (s1 (fz (zof f 28)) j), .int .i64 0]) ∧ Below w.heap.size w w' from fun j hj w R => by
    have := score_any (some ⟨lb, 0, none⟩) lc (zof f 28) 28 (zof_len _ _) (by omega) (b1 j) w R
    rw [scV_yes (n := 1) rfl (by omega) (b1_size j) so] at this
    exact this)
  clear ge iw so hb1 RC C0 B0
  obtain ⟨F, hF⟩ : ∃ F, fz (zof f 28) = F := ⟨_, rfl⟩
  rw [hF] at SC
  have OO := Lib.hid (fun (b : Nat) (D : ByteArray) (hb : b < 256) h hD t => only_one (f := F) (b := b) (D := D) hb h hD t)
  obtain ⟨ZS, hZ⟩ : ∃ z, zof f 28 = z := ⟨_, rfl⟩
  rw [hZ] at I1 P OK SC hF
  go_wp2_with fail
  (with_reducible refine (P.out _ I1.out).mono ?_)
  rintro e w2 ⟨q2, h2⟩
  rcases decA_cases q2 with ⟨_, D, g1, g2, rfl⟩ | ⟨q, _⟩
  rotate_left
  · exact absurd OK.out q
  rw [hF] at g2 ⊢
  have DS := Lib.hid (fun (b : Nat) (hb : b < 256) h => OO.out b D hb h g1 g2)
  obtain ⟨y, hy⟩ : ∃ y, Vit.msum F (1 : Int).toNat (Gal.co D.data.toList) = y := ⟨_, rfl⟩
  have DS := Lib.hid (show ∀ b, b < 256 → (∀ j, j < 256 → s1 F j < s1 F b ∨ (s1 F j = s1 F b ∧ b ≤ j)) → D = b1 b ∧ y = s1 F b from fun b hb h => by rw [← hy]; exact DS.out b hb h)
  rw [hy]
  have B2 := Lib.hid (bt B1.out h2)
  have I2 := Lib.hid (I1.out.below h2)
  clear q2 h2 g1 g2 hy hF hZ OO OK P B1 I1
  go_wp2_with fail
  go_loopw [9, 10, 11] (fun s z x wr => ∃ (i : Nat) (S : ByteArray) (Z : Int), i ≤ 256 ∧ x = .int .i64 (i : Nat) ∧ s = .string S ∧ z = .int .i64 Z ∧ Tried F i S Z ∧ Ints wr (some ⟨lb, 0, none⟩) ZS ∧ Below w.heap.size w wr) (fun _ _ x _ => 256 - (intOf x).toNat)
  case atStart => exact ⟨0, ⟨#[]⟩, 0, by omega, rfl, rfl, rfl, .inl ⟨rfl, rfl, rfl⟩, I2.out, B2.out⟩
  case round =>
    obtain ⟨i, S, Z, hi, rfl, rfl, rfl, hT, hI, hB⟩ := hrel
    have TR := Lib.hid hT
    have I3 := Lib.hid hI
    have B3 := Lib.hid hB
    clear hI hB I2 B2
    by_cases hlt : i < 256
    · have t1 : decide ((i : Int) < 256) = true := by simp; omega
      have w8 : IntKind.u8.wrap (i : Int) = (i : Int) := by rw [IntKind.wrap_u8]; omega
      have C3 := Lib.hid (byte_new i hlt wr)
      have B4 := ba B3.out (.cells #[.int .u8 (i : Nat)] 5)
      have I4 := I3.out.below (ba (Below.refl wr.heap.size wr) (.cells #[.int .u8 (i : Nat)] 5))
      obtain ⟨w4, hw4⟩ : ∃ w4, wr.alloc (.cells #[.int .u8 (i : Nat)] 5) = w4 := ⟨_, rfl⟩
      rw [hw4] at C3 B4 I4
      have HB4 := Lib.hid B4
      have S4 := Lib.hid (SC.out i hlt w4 I4)
      have HI4 := Lib.hid I4
      obtain ⟨v, hv⟩ : ∃ v, s1 F i = v := ⟨_, rfl⟩
      rw [hv] at S4
      have HV := Lib.hid hv
      have HW4 := Lib.hid hw4
      have TL := Lib.hid (b1_ne i)
      obtain ⟨sb, hsb⟩ : ∃ s, b1 i = s := ⟨_, rfl⟩
      rw [hsb] at C3 S4 TL
      have HSB := Lib.hid hsb
      clear B4 I4 hv hw4 hsb hT
      by_cases i0 : i = 0
      · have TN := Lib.hid (tried_new TR.out (.inl i0))
        rcases TR.out with ⟨-, rfl, rfl⟩ | ⟨b, hb, _⟩
        · have e0 : ((⟨#[]⟩ : ByteArray) == ⟨#[]⟩) = true := by decide +kernel
          clear i0 TR
          go_wp2_with (first | simp only [HW4.out] | simp only [C3.out])
          (with_reducible refine S4.out.mono ?_)
          rintro e w5 ⟨rfl, h5⟩
          have B5 := Lib.hid (bt HB4.out h5)
          have I5 := Lib.hid (HI4.out.below h5)
          clear h5 HB4 HI4 S4
          go_wp2_with fail
          go_roundw
          case rel => exact ⟨i + 1, sb, v, by omega, by go_num, rfl, rfl, by rw [← HSB.out, ← HV.out]; exact TN.out, I5.out, B5.out⟩
          case measure => simp [intOf]; omega
        · omega
      · have SE : S ≠ ⟨#[]⟩ := by
          rcases TR.out with ⟨h, _⟩ | ⟨b, _, e, _⟩
          · exact absurd h i0
          · rw [e]; exact b1_ne b
        obtain ⟨e1, e2, e3⟩ := not_empty SE
        by_cases g : Z < v
        · have TN := Lib.hid (tried_new TR.out (.inr (by rw [HV.out]; exact g)))
          have t3 : decide (Z < v) = true := by simp; omega
          clear i0 TR SE g
          go_wp2_with (first | simp only [HW4.out] | simp only [C3.out])
          (with_reducible refine S4.out.mono ?_)
          rintro e w5 ⟨rfl, h5⟩
          have B5 := Lib.hid (bt HB4.out h5)
          have I5 := Lib.hid (HI4.out.below h5)
          clear h5 HB4 HI4 S4
          go_wp2_with fail
          go_roundw
          case rel => exact ⟨i + 1, sb, v, by omega, by go_num, rfl, rfl, by rw [← HSB.out, ← HV.out]; exact TN.out, I5.out, B5.out⟩
          case measure => simp [intOf]; omega
        · have TN := Lib.hid (tried_keep (by omega) TR.out (by rw [HV.out]; omega))
          have t3 : decide (Z < v) = false := by simp; omega
          clear i0 TR SE g
          go_wp2_with (first | simp only [HW4.out] | simp only [C3.out])
          (with_reducible refine S4.out.mono ?_)
          rintro e w5 ⟨rfl, h5⟩
          have B5 := Lib.hid (bt HB4.out h5)
          have I5 := Lib.hid (HI4.out.below h5)
          clear h5 HB4 HI4 S4
          go_wp2_with fail
          go_roundw
          case rel => exact ⟨i + 1, S, Z, by omega, by go_num, rfl, rfl, TN.out, I5.out, B5.out⟩
          case measure => simp [intOf]; omega
    · have t1 : decide ((i : Int) < 256) = false := by simp; omega
      rcases hT with ⟨h0, _⟩ | ⟨b, hb, rfl, rfl, ht⟩
      · omega
      obtain ⟨rfl, rfl⟩ := DS.out b (by omega) (fun j hj => ht j (by omega))
      obtain ⟨y, hy⟩ : ∃ y, s1 F b = y := ⟨_, rfl⟩
      rw [hy] at DS ⊢
      obtain ⟨D, hD⟩ : ∃ y, b1 b = y := ⟨_, rfl⟩
      rw [hD] at DS ⊢
      have ee : (D == D) = true := by show (D.data == D.data) = true; simp
      have yy : ((y : Int) == y) = true := by simp
      clear DS SC TR I3 hy hD ht hb
      go_wp2_with fail
      (with_reducible refine (AW.out _).mono ?_)
      rintro e w7 ⟨rfl, h7⟩
      have B7 := Lib.hid (bt B3.out h7)
      clear h7 B3
      go_wp2_with fail
      go_ret
      exact ⟨rfl, B7.out⟩

set_option maxRecDepth 100000 in
theorem lifted (os : Os) (started : os.Started) (H : Type) (enc : TypeId × Value → H) :
    ReturnsInHanded {} Try.checked os 6 .any (Rows.viterbiAllSpec.pre6 enc Try.prog Try.f6 Rows.viterbiAllRow.domain false) (Rows.viterbiAllSpec.post enc Try.prog Try.f6 false true false false) := by
  refine returnsInHanded_of_change (C := Try.checked) own started (by kernel_rfl) Try.func6
    (ChangeSpec.witness6 (enc := enc) (C := Try.checked) false ⟨#[], #[.int .u8 0, .slice none 0 0], []⟩ 8 (by kernel_rfl) (by kernel_rfl) (by kernel_rfl) (by kernel_rfl)) ?_
  intro W base args ds gs before hval0 hW _ _
  have hval : ∀ (j : Nat) t v, Try.f6.params[j]? = some t → args[j]? = some v → Value.okWide Try.prog W .any base t v := hval0
  have hW' := hW
  obtain ⟨p, q, hA0, hV, rfl, hfz, hnd⟩ := hW
  have hA : DataW.TrodAll enc Try.prog W 0 (fun _ => true) true Try.f6.params.toList args.toList ds p := hA0
  rw [Try.params6] at hA hval
  obtain ⟨v0, vs0, d0, ds0, p0, q0, hargs, rfl, rfl, h0, r0⟩ := trodAll_cons hA
  obtain ⟨v1, vs1, d1, ds1, p1, q1, rfl, rfl, rfl, h1, r1⟩ := trodAll_cons r0
  obtain ⟨rfl, rfl, rfl⟩ := trodAll_nil r1
  obtain rfl : args = #[v0, v1] := by cases args; simp_all
  obtain ⟨rfl, rfl⟩ := trodVars_none hV
  obtain ⟨a0, rfl, rfl, rfl, w0⟩ := open_int Try.underlying5 (hval 0 5 v0 rfl rfl) h0
  obtain ⟨x1, y1, z1, e1⟩ := okWide_slice Try.underlying35 (hval 1 35 v1 rfl rfl)
  obtain ⟨zs1, S1⟩ := slice_arg (k := .i8) Try.underlying35 Try.underlying59 cells_i8 (by rw [e1]; rfl) h1
  clear e1
  obtain ⟨⟨ao1, cap1, rfl, l1, m1, R1⟩, w1, shut1⟩ := S1
  clear hA0 hval0
  simp only [List.append_nil] at hW'
  refine (walk a0 w0 ao1 cap1 zs1 l1 m1 w1 W R1).mono fun e W' ⟨he, hg⟩ => ?_
  subst he
  exact ⟨_, rfl, post_of_below (pa := ([] ++ (p1 ++ []))) (pv := []) hW' (fun _ _ _ => trodAll_cons_mk (shut_bool Try.underlying4 _) trodAll_mk0) (fun sp hsp => (trodAll_cons_mk (shut_int Try.underlying5 w0) (trodAll_cons_mk (shut1 W' hg sp (fun q hq => hsp q (by simp [hq]))) trodAll_mk0))) (fun _ _ => rfl) (by simp)
    hg (ok_one (by kernel_rfl) rfl (okWide_bool_mk Try.underlying4 _))⟩

theorem proved : Rows.ViterbiAllSaid :=
  OpenClaim.holds_of_wide 6 Try.f6 rfl rfl rfl rfl rfl rfl rfl ⟨rfl, rfl, rfl, rfl, rfl⟩ rfl rfl rfl rfl rfl (by kernel_rfl) Try.func6 (by kernel_rfl)
    (of_decide_eq_true (by kernel_rfl)) (by unfold Func.isWrapper; first | (rw [if_pos (by decide +kernel)]; kernel_rfl) | (rw [if_neg (by decide +kernel)]; exact ⟨rfl, rfl⟩))
    (fun os started H enc _ => lifted os started H enc)
#print axioms proved
end viterbiAll
end Go.Proofs.Ytgfihljledmaaaa
