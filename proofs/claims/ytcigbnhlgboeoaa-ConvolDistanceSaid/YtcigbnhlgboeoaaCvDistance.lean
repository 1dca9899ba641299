/- ConvolDistance: the symbol lists of any two different messages of the same length (of at most 1000 bytes) differ in at least 10 symbols, and those of equal messages in none. No condition. -/
import Derived.Test.YtcigbnhlgboeoaaRowKit
import Derived.Test.YtcigbnhlgboeoaaCvFill
namespace Go.Proofs.Ytcigbnhlgboeoaa
open Go.ChangeShapes Go.WideShapes Go.ChangeAt Go.RowKit
set_option linter.unusedVariables false

namespace convolDistance
theorem dff_self (f : Nat → Nat) : ∀ k, Cv.dff f f k = 0
  | 0 => rfl
  | k + 1 => by rw [Cv.dff_succ, dff_self f k, if_neg (fun h => h rfl)]
theorem dff_le (f g : Nat → Nat) : ∀ k, Cv.dff f g k ≤ k
  | 0 => Nat.le_refl _
  | k + 1 => by
    rw [Cv.dff_succ]
    have := dff_le f g k
    split <;> omega
theorem enc_size (s : ByteArray) (n : Nat) : (encS s n).size = 16 * n + 12 := coefs_size _ _
theorem enc_at (s : ByteArray) (n i : Nat) (h : i < 16 * n + 12) : (Gal.co (encS s n).data.toList i).toNat = Cv.sym (Cv.mb (Gal.co s.data.toList) n) i := by
  unfold encS
  show (Gal.co (Gal.coefs _ _) i).toNat = _
  rw [Gal.co_coefs, if_pos h, symB_nat]
theorem enc_byte (s : ByteArray) (n i : Nat) (X : ByteArray) (hX : encS s n = X) (h : i < X.size) : X[i].toNat = Cv.sym (Cv.mb (Gal.co s.data.toList) n) i := by
  subst hX
  rw [byte_co _ _ h, enc_at s n i (by rw [enc_size] at h; exact h)]
/-- Different strings of n bytes. -/
theorem ne_byte {a b : ByteArray} {n : Nat} (ha : a.size = n) (hb : b.size = n) (h : a ≠ b) : ∃ p, p < n ∧ Gal.co a.data.toList p ≠ Gal.co b.data.toList p := by
  apply Classical.byContradiction
  intro q
  apply h
  apply ByteArray.ext
  apply Array.toList_inj.1
  refine Gal.ext (by rw [ls, ls, ha, hb]) (fun i hi => ?_)
  rw [ls, ha] at hi
  exact Classical.byContradiction fun g => q ⟨i, hi, g⟩
set_option maxRecDepth 100000 in
set_option maxHeartbeats 1000000 in
theorem walk (a : ByteArray) (ha : a.size ≤ maxLen) (b : ByteArray) (hb : b.size ≤ maxLen) (w : World) :
    Calls Try.prog 7 #[.string a, .string b] w fun e w' => e = .returned (.bool true) ∧ Below w.heap.size w w' := by
  unfold maxLen at ha hb
  obtain ⟨la, hla⟩ : ∃ n, a.size = n := ⟨_, rfl⟩
  obtain ⟨lb, hlb⟩ : ∃ n, b.size = n := ⟨_, rfl⟩
  obtain ⟨M, hM⟩ : ∃ n, max la lb = n := ⟨_, rfl⟩
  obtain ⟨n, hn⟩ : ∃ n, min 1000 M = n := ⟨_, rfl⟩
  have n1 : n ≤ 1000 := by omega
  have m1 : max (la : Int) (lb : Int) = (M : Int) := by omega
  have m2 : min (1000 : Int) (M : Int) = (n : Int) := by omega
  have AW := Lib.hid (fun w => awake_any w)
  have F1 := Lib.hid (fun w => filled_any a n n1 (by omega) w)
  have F2 := Lib.hid (fun w => filled_any b n n1 (by omega) w)
  have sa := fil_size a n
  have sb := fil_size b n
  rw [hla] at ha
  rw [hlb] at hb
  obtain ⟨A, hA⟩ : ∃ x, fil a n = x := ⟨_, rfl⟩
  obtain ⟨B, hB⟩ : ∃ x, fil b n = x := ⟨_, rfl⟩
  rw [hA] at F1 sa
  rw [hB] at F2 sb
  have E1 := Lib.hid (fun w => encode_any A n sa (by omega) w)
  have E2 := Lib.hid (fun w => encode_any B n sb (by omega) w)
  have sX := enc_size A n
  have sY := enc_size B n
  obtain ⟨X, hX⟩ : ∃ x, encS A n = x := ⟨_, rfl⟩
  obtain ⟨Y, hY⟩ : ∃ x, encS B n = x := ⟨_, rfl⟩
  have BX := Lib.hid (fun i h => enc_byte A n i X hX h)
  have BY := Lib.hid (fun i h => enc_byte B n i Y hY h)
  rw [hX] at E1 sX
  rw [hY] at E2 sY
  have DS := Lib.hid (fun h => Cv.dist (f := Gal.co A.data.toList) (g := Gal.co B.data.toList) (n := n) (ne_byte sa sb h))
  have DE := Lib.hid (fun h : A = B => show Cv.dff (Cv.mb (Gal.co A.data.toList) n) (Cv.mb (Gal.co B.data.toList) n) (2 * (8 * n + 6)) = 0 by rw [h, dff_self])
  rw [show 2 * (8 * n + 6) = 16 * n + 12 by omega] at DS DE
  obtain ⟨f, hf⟩ : ∃ f, Cv.mb (Gal.co A.data.toList) n = f := ⟨_, rfl⟩
  obtain ⟨g, hg⟩ : ∃ f, Cv.mb (Gal.co B.data.toList) n = f := ⟨_, rfl⟩
  rw [hf] at BX DS DE
  rw [hg] at BY DS DE
  obtain ⟨N, hN⟩ : ∃ N, 16 * n + 12 = N := ⟨_, rfl⟩
  rw [hN] at sX sY DS DE
  have N2 : N ≤ 16012 := by omega
  have SX := Lib.hid sX
  have SY := Lib.hid sY
  clear hA hB hX hY hf hg hN hM hn
  go_enter Try.func7, Try.ntmps7
  go_wp2_with fail
  (with_reducible refine (F1.out _).mono ?_)
  rintro e w1 ⟨rfl, h1⟩
  have H1 := Lib.hid h1
  clear h1 F1
  go_wp2_with fail
  (with_reducible refine (F2.out _).mono ?_)
  rintro e w2 ⟨rfl, h2⟩
  have H2 := Lib.hid (bt H1.out h2)
  clear h2 H1 F2
  go_wp2_with fail
  (with_reducible refine (E1.out _).mono ?_)
  rintro e w3 ⟨rfl, h3⟩
  have H3 := Lib.hid (bt H2.out h3)
  clear h3 H2 E1
  go_wp2_with fail
  (with_reducible refine (E2.out _).mono ?_)
  rintro e w4 ⟨rfl, h4⟩
  have H4 := Lib.hid (bt H3.out h4)
  clear h4 H3 E2
  go_wp2_with fail
  go_loopw [10, 11] (fun c z wr => ∃ i : Nat, i ≤ N ∧ z = .int .i64 (i : Nat) ∧ c = .int .i64 (Cv.dff f g i : Nat) ∧ Below w.heap.size w wr) (fun _ z _ => N - (intOf z).toNat)
  case atStart => exact ⟨0, Nat.zero_le _, rfl, rfl, H4.out⟩
  case round =>
    obtain ⟨i, hi, rfl, rfl, hBB⟩ := hrel
    have GB := Lib.hid hBB
    clear hBB H4
    by_cases hlt : i < N
    · have t1 : decide ((i : Int) < (N : Int)) = true := by simp; omega
      have iX : i < X.size := by rw [SX.out]; exact hlt
      have iY : i < Y.size := by rw [SY.out]; exact hlt
      have bx := BX.out i iX
      have by' := BY.out i iY
      have ds := Cv.dff_succ f g i
      have dl := dff_le f g i
      obtain ⟨c, hc⟩ : ∃ c, Cv.dff f g i = c := ⟨_, rfl⟩
      rw [hc] at ds dl ⊢
      obtain ⟨u, hu⟩ : ∃ u, Cv.sym f i = u := ⟨_, rfl⟩
      obtain ⟨v, hv⟩ : ∃ u, Cv.sym g i = u := ⟨_, rfl⟩
      rw [hu] at bx ds
      rw [hv] at by' ds
      clear hc hu hv DS DE BX BY
      by_cases e : u = v
      · rw [if_neg (fun h => h e)] at ds
        have DS2 := Lib.hid (show Cv.dff f g (i + 1) = c from ds)
        have t2 : ((u : Int) != (v : Int)) = false := by simp; omega
        clear ds e
        go_wp2_with fail
        go_quiet (fail)
        go_wp2_with fail
        go_roundw
        case rel => exact ⟨i + 1, by omega, by go_num, by rw [DS2.out], below_drewN GB.out _⟩
        case measure => simp [intOf]; omega
      · rw [if_pos e] at ds
        have DS2 := Lib.hid (show Cv.dff f g (i + 1) = c + 1 from ds)
        have t2 : ((u : Int) != (v : Int)) = true := by simp; omega
        clear ds e
        go_wp2_with fail
        go_quiet (fail)
        go_wp2_with fail
        go_roundw
        case rel => exact ⟨i + 1, by omega, by go_num, by rw [DS2.out]; go_num, below_drewN GB.out _⟩
        case measure => simp [intOf]; omega
    · have t1 : decide ((i : Int) < (N : Int)) = false := by simp; omega
      have HI := Lib.hid (show i = N by omega)
      have dl := dff_le f g i
      obtain ⟨c, hc⟩ : ∃ c, Cv.dff f g i = c := ⟨_, rfl⟩
      rw [hc] at dl ⊢
      have HC := Lib.hid (show Cv.dff f g N = c by rw [← HI.out]; exact hc)
      clear hc BX BY
      by_cases e : A = B
      · have c0 : c = 0 := by rw [← HC.out]; exact DE.out e
        have t2 : ((c : Int) == 0) = true := by simp; omega
        subst e
        have ee : (A == A) = true := by show (A.data == A.data) = true; simp
        clear DS DE HC c0
        go_wp2_with fail
        (with_reducible refine (AW.out _).mono ?_)
        rintro e w5 ⟨rfl, h5⟩
        have GB2 := Lib.hid (bt GB.out h5)
        clear h5 GB
        go_wp2_with fail
        go_ret
        exact ⟨rfl, GB2.out⟩
      · have c0 : 10 ≤ c := by rw [← HC.out]; exact DS.out e
        have t2 : decide ((10 : Int) ≤ (c : Int)) = true := by simp; omega
        have e2 := beq_no e
        have e3 : (A != B) = true := by simp [bne, e2]
        have e2' : (A.toList == B.toList) = false := by rw [← beq_toListBytes, e2]
        clear DS DE HC e
        go_wp2_with fail
        (with_reducible refine (AW.out _).mono ?_)
        rintro e w5 ⟨rfl, h5⟩
        have GB2 := Lib.hid (bt GB.out h5)
        clear h5 GB
        go_wp2_with fail
        go_ret
        exact ⟨rfl, GB2.out⟩

set_option maxRecDepth 100000 in
theorem lifted (os : Os) (started : os.Started) (H : Type) (enc : TypeId × Value → H) :
    ReturnsInHanded {} Try.checked os 7 .any (Rows.convolDistanceSpec.pre6 enc Try.prog Try.f7 Rows.convolDistanceRow.domain false) (Rows.convolDistanceSpec.post enc Try.prog Try.f7 false true false false) := by
  refine returnsInHanded_of_change (C := Try.checked) own started (by kernel_rfl) Try.func7
    (ChangeSpec.witness6 (enc := enc) (C := Try.checked) false ⟨#[], #[.string { data := #[] }, .string { data := #[] }], []⟩ 8 (by kernel_rfl) (by kernel_rfl) (by kernel_rfl) (by kernel_rfl)) ?_
  intro W base args ds gs before hval0 hW _ _
  have hval : ∀ (j : Nat) t v, Try.f7.params[j]? = some t → args[j]? = some v → Value.okWide Try.prog W .any base t v := hval0
  have hW' := hW
  obtain ⟨p, q, hA0, hV, rfl, hfz, hnd⟩ := hW
  have hA : DataW.TrodAll enc Try.prog W 0 (fun _ => true) true Try.f7.params.toList args.toList ds p := hA0
  rw [Try.params7] at hA hval
  obtain ⟨v0, vs0, d0, ds0, p0, q0, hargs, rfl, rfl, h0, r0⟩ := trodAll_cons hA
  obtain ⟨v1, vs1, d1, ds1, p1, q1, rfl, rfl, rfl, h1, r1⟩ := trodAll_cons r0
  obtain ⟨rfl, rfl, rfl⟩ := trodAll_nil r1
  obtain rfl : args = #[v0, v1] := by cases args; simp_all
  obtain ⟨rfl, rfl⟩ := trodVars_none hV
  obtain ⟨a0, rfl, rfl, rfl, w0⟩ := ChangeMaps.open_string Try.underlying9 (hval 0 9 v0 rfl rfl) h0
  obtain ⟨a1, rfl, rfl, rfl, w1⟩ := ChangeMaps.open_string Try.underlying9 (hval 1 9 v1 rfl rfl) h1
  clear hA0 hval0
  simp only [List.append_nil] at hW'
  refine (walk a0 w0 a1 w1 W).mono fun e W' ⟨he, hg⟩ => ?_
  subst he
  exact ⟨_, rfl, post_of_below (pa := []) (pv := []) hW' (fun _ _ _ => trodAll_cons_mk (shut_bool Try.underlying4 _) trodAll_mk0) (fun sp _ => (trodAll_cons_mk (ChangeMaps.shut_string Try.underlying9 w0) (trodAll_cons_mk (ChangeMaps.shut_string Try.underlying9 w1) trodAll_mk0))) (fun _ _ => rfl) rfl
    hg (ok_one (by kernel_rfl) rfl (okWide_bool_mk Try.underlying4 _))⟩

theorem proved : Rows.ConvolDistanceSaid :=
  OpenClaim.holds_of_wide 7 Try.f7 rfl rfl rfl rfl rfl rfl rfl ⟨rfl, rfl, rfl, rfl, rfl⟩ rfl rfl rfl rfl rfl (by kernel_rfl) Try.func7 (by kernel_rfl)
    (of_decide_eq_true (by kernel_rfl)) (by unfold Func.isWrapper; first | (rw [if_pos (by decide +kernel)]; kernel_rfl) | (rw [if_neg (by decide +kernel)]; exact ⟨rfl, rfl⟩))
    (fun os started H enc _ => lifted os started H enc)
#print axioms proved
end convolDistance
end Go.Proofs.Ytcigbnhlgboeoaa
