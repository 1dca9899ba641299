/- ConvolMemory: of all states and bits, Step's next state and symbols depend on them as the document says, and each state is reached from just two steps. No condition. -/
import Derived.Test.YtcigbnhlgboeoaaRowKit
import Derived.Test.YtcigbnhlgboeoaaCvAwake
namespace Go.Proofs.Ytcigbnhlgboeoaa
open Go.ChangeShapes Go.WideShapes Go.ChangeAt Go.RowKit
set_option linter.unusedVariables false

namespace convolMemory
/-- How many of the first m steps lead to the state N. -/
def cnt (N m : Nat) : Nat := ((List.range m).filter (fun p => decide (Cv.nx (p / 2) (p % 2) = N))).length
theorem cnt_succ (N m : Nat) : cnt N (m + 1) = cnt N m + (if Cv.nx (m / 2) (m % 2) = N then 1 else 0) := by
  unfold cnt
  rw [List.range_succ, List.filter_append, List.length_append]
  congr 1
  by_cases h : Cv.nx (m / 2) (m % 2) = N <;> simp [h]
theorem cnt_le (N : Nat) : ∀ m, cnt N m ≤ m
  | 0 => Nat.le_refl _
  | m + 1 => by
    rw [cnt_succ]
    have := cnt_le N m
    split <;> omega
theorem cnt_all : ∀ s, s < 64 → ∀ b, b < 2 → cnt (Cv.nx s b) 128 = 2 := by decide +kernel
theorem other : ∀ s, s < 64 → ∀ b, b < 2 → Cv.s1 s (1 - b) = 1 - Cv.s1 s b ∧ Cv.s2 s (1 - b) = 1 - Cv.s2 s b := by decide +kernel
set_option maxRecDepth 100000 in
set_option maxHeartbeats 1000000 in
theorem walk (s : Int) (hs : (Lit.int .u8 s).wf = true) (b : Int) (hb : (Lit.int .u8 b).wf = true) (w : World) :
    Calls Try.prog 6 #[.int .u8 s, .int .u8 b] w fun e w' => e = .returned (.bool true) ∧ Below w.heap.size w w' := by
  obtain ⟨p1, p2⟩ := bounds_u8 hs
  obtain ⟨p3, p4⟩ := bounds_u8 hb
  obtain ⟨S0, rfl⟩ : ∃ S : Nat, s = (S : Int) := ⟨s.toNat, by omega⟩
  obtain ⟨B0, rfl⟩ : ∃ S : Nat, b = (S : Int) := ⟨b.toNat, by omega⟩
  clear hs hb
  obtain ⟨S, hS⟩ : ∃ S, S0 % 64 = S := ⟨_, rfl⟩
  obtain ⟨B, hB⟩ : ∃ S, B0 % 2 = S := ⟨_, rfl⟩
  have S64 : S < 64 := by omega
  have B2 : B < 2 := by omega
  have e1 : (S0 : Int) % 64 = (S : Int) := by omega
  have e2 : (B0 : Int) % 2 = (B : Int) := by omega
  have AW := Lib.hid (fun w => awake_any w)
  have A1 := Lib.hid (fun w => step_in S B S64 B2 w)
  have A2 := Lib.hid (fun w => step_in S (1 - B) S64 (by omega) w)
  have AS := Lib.hid (fun i k hi hk w => step_in i k hi hk w)
  obtain ⟨o1, o2⟩ := other S S64 B B2
  have CA := Lib.hid (cnt_all S S64 B B2)
  have x2 := Cv.s1_lt S B
  have y2 := Cv.s2_lt S B
  have nN : 32 * B + S / 2 = Cv.nx S B := by unfold Cv.nx; omega
  have nM : 32 * (1 - B) + S / 2 = Cv.nx S (1 - B) := by unfold Cv.nx; omega
  have N64 := Cv.nx_lt S64 B2
  have M64 := Cv.nx_lt S64 (show 1 - B < 2 by omega)
  unfold tupV stepV at A1 A2
  rw [o1, o2] at A2
  obtain ⟨N, hN⟩ : ∃ x, Cv.nx S B = x := ⟨_, rfl⟩
  obtain ⟨M, hM⟩ : ∃ x, Cv.nx S (1 - B) = x := ⟨_, rfl⟩
  obtain ⟨x, hx⟩ : ∃ x, Cv.s1 S B = x := ⟨_, rfl⟩
  obtain ⟨y, hy⟩ : ∃ x, Cv.s2 S B = x := ⟨_, rfl⟩
  rw [hN] at A1 CA nN N64
  rw [hM] at A2 nM M64
  rw [hx] at A1 A2 x2
  rw [hy] at A1 A2 y2
  obtain ⟨h, hh⟩ : ∃ x, S / 2 = x := ⟨_, rfl⟩
  obtain ⟨C, hC⟩ : ∃ x, 1 - B = x := ⟨_, rfl⟩
  obtain ⟨x', hx'⟩ : ∃ z, 1 - x = z := ⟨_, rfl⟩
  obtain ⟨y', hy'⟩ : ∃ z, 1 - y = z := ⟨_, rfl⟩
  rw [hh] at nN nM
  rw [hC] at A2 nM
  rw [hx', hy'] at A2
  have e3 : (S : Int) / 2 = (h : Int) := by omega
  have e4 : 32 * (B : Int) + (h : Int) = (N : Int) := by omega
  have e5 : 1 - (B : Int) = (C : Int) := by omega
  have e6 : 32 * (C : Int) + (h : Int) = (M : Int) := by omega
  have e7 : 1 - (x : Int) = (x' : Int) := by omega
  have e8 : 1 - (y : Int) = (y' : Int) := by omega
  have b1 : decide ((1 : Int) < (x : Int)) = false := by simp; omega
  have b2 : decide ((1 : Int) < (y : Int)) = false := by simp; omega
  have C2 : C < 2 := by omega
  have h32 : h < 32 := by omega
  clear hS hB o1 o2 hN hM hx hy hh hC hx' hy' nN nM p1 p3
  go_enter Try.func6, Try.ntmps6
  go_wp2_with fail
  (with_reducible refine (A1.out _).mono ?_)
  rintro e w1 ⟨rfl, h1⟩
  have H1 := Lib.hid h1
  clear h1 A1
  go_wp2_with fail
  go_loopw [10, 11] (fun c z wr => ∃ i : Nat, i ≤ 64 ∧ z = .int .i64 (i : Nat) ∧ c = .int .i64 (cnt N (2 * i) : Nat) ∧ Below w.heap.size w wr) (fun _ z _ => 64 - (intOf z).toNat)
  case atStart => exact ⟨0, Nat.zero_le _, rfl, rfl, H1.out⟩
  case round =>
    obtain ⟨i, hi, rfl, rfl, hBB⟩ := hrel
    have GB := Lib.hid hBB
    clear hBB
    by_cases hlt : i < 64
    · have t1 : decide ((i : Int) < 64) = true := by simp; omega
      obtain ⟨c0, hc0⟩ : ∃ c, cnt N (2 * i) = c := ⟨_, rfl⟩
      rw [hc0]
      have HC0 := Lib.hid hc0
      clear hc0
      go_wp2_with fail
      go_loopw [10, 12] (fun c z wr => ∃ k : Nat, k ≤ 2 ∧ z = .int .i64 (k : Nat) ∧ c = .int .i64 (cnt N (2 * i + k) : Nat) ∧ Below w.heap.size w wr) (fun _ z _ => 2 - (intOf z).toNat)
      case atStart => exact ⟨0, Nat.zero_le _, rfl, by rw [show 2 * i + 0 = 2 * i from rfl, HC0.out], GB.out⟩
      case round =>
        obtain ⟨k, hk, rfl, rfl, hBB⟩ := hrel
        have GB2 := Lib.hid hBB
        clear hBB GB
        by_cases hlk : k < 2
        · have t2 : decide ((k : Int) < 2) = true := by simp; omega
          have S1 := Lib.hid (AS.out i k hlt hlk)
          unfold tupV stepV at S1
          have cs := cnt_succ N (2 * i + k)
          rw [show (2 * i + k) / 2 = i by omega, show (2 * i + k) % 2 = k by omega] at cs
          have cl := cnt_le N (2 * i + k)
          obtain ⟨c1, hc1⟩ : ∃ c, cnt N (2 * i + k) = c := ⟨_, rfl⟩
          rw [hc1] at cs cl ⊢
          obtain ⟨z0, hz0⟩ : ∃ z, Cv.nx i k = z := ⟨_, rfl⟩
          obtain ⟨z1, hz1⟩ : ∃ z, Cv.s1 i k = z := ⟨_, rfl⟩
          obtain ⟨z2, hz2⟩ : ∃ z, Cv.s2 i k = z := ⟨_, rfl⟩
          rw [hz0, hz1, hz2] at S1
          rw [hz0] at cs
          have cb : c1 ≤ 128 := by omega
          clear hz0 hz1 hz2 hc1 cl
          by_cases g : z0 = N
          · rw [if_pos g] at cs
            have CS := Lib.hid (show cnt N (2 * i + (k + 1)) = c1 + 1 from cs)
            have g1 : ((z0 : Int) == (N : Int)) = true := by simp; omega
            clear cs g AS
            go_wp2_with fail
            (with_reducible refine (S1.out _).mono ?_)
            rintro e w2 ⟨rfl, h2⟩
            have GB3 := Lib.hid (bt GB2.out h2)
            clear h2 GB2
            go_wp2_with fail
            go_roundw
            case rel => exact ⟨k + 1, by omega, by go_num, by rw [CS.out]; go_num, GB3.out⟩
            case measure => simp [intOf]; omega
          · rw [if_neg g] at cs
            have CS := Lib.hid (show cnt N (2 * i + (k + 1)) = c1 from cs)
            have g1 : ((z0 : Int) == (N : Int)) = false := by simp; omega
            clear cs g AS
            go_wp2_with fail
            (with_reducible refine (S1.out _).mono ?_)
            rintro e w2 ⟨rfl, h2⟩
            have GB3 := Lib.hid (bt GB2.out h2)
            clear h2 GB2
            go_wp2_with fail
            go_roundw
            case rel => exact ⟨k + 1, by omega, by go_num, by rw [CS.out], GB3.out⟩
            case measure => simp [intOf]; omega
        · have t2 : decide ((k : Int) < 2) = false := by simp; omega
          have K2 := Lib.hid (show 2 * i + k = 2 * (i + 1) by omega)
          clear AS
          go_wp2_with fail
          go_roundw
          case rel => exact ⟨i + 1, by omega, by go_num, by rw [K2.out], GB2.out⟩
          case measure => simp [intOf]; omega
    · have t1 : decide ((i : Int) < 64) = false := by simp; omega
      have I64 := Lib.hid (show cnt N (2 * i) = 2 by rw [show 2 * i = 128 by omega, CA.out])
      rw [I64.out]
      clear AS CA
      go_wp2_with fail
      (with_reducible refine (A2.out _).mono ?_)
      rintro e w2 ⟨rfl, h2⟩
      have GB3 := Lib.hid (bt GB.out h2)
      clear h2 GB A2
      go_wp2_with fail
      (with_reducible refine (AW.out _).mono ?_)
      rintro e w3 ⟨rfl, h3⟩
      have GB4 := Lib.hid (bt GB3.out h3)
      clear h3 GB3
      go_wp2_with fail
      go_ret
      exact ⟨rfl, GB4.out⟩

set_option maxRecDepth 100000 in
theorem lifted (os : Os) (started : os.Started) (H : Type) (enc : TypeId × Value → H) :
    ReturnsInHanded {} Try.checked os 6 .any (Rows.convolMemorySpec.pre6 enc Try.prog Try.f6 Rows.convolMemoryRow.domain false) (Rows.convolMemorySpec.post enc Try.prog Try.f6 false true false false) := by
  refine returnsInHanded_of_change (C := Try.checked) own started (by kernel_rfl) Try.func6
    (ChangeSpec.witness6 (enc := enc) (C := Try.checked) false ⟨#[], #[.int .u8 0, .int .u8 0], []⟩ 8 (by kernel_rfl) (by kernel_rfl) (by kernel_rfl) (by kernel_rfl)) ?_
  intro W base args ds gs before hval0 hW _ _
  have hval : ∀ (j : Nat) t v, Try.f6.params[j]? = some t → args[j]? = some v → Value.okWide Try.prog W .any base t v := hval0
  have hW' := hW
  obtain ⟨p, q, hA0, hV, rfl, hfz, hnd⟩ := hW
  have hA : DataW.TrodAll enc Try.prog W 0 (fun _ => true) true Try.f6.params.toList args.toList ds p := hA0
  rw [Try.params6] at hA hval
  obtain ⟨v0, vs0, d0, ds0, p0, q0, hargs, rfl, rfl, h0, r0⟩ := trodAll_cons hA
  obtain ⟨v1, vs1, d1, ds1, p1, q1, rfl, rfl, rfl, h1, r1⟩ := trodAll_cons r0
  obtain ⟨rfl, rfl, rfl⟩ := trodAll_nil r1
  obtain rfl : args = #[v0, v1] := by cases args; simp_all
  obtain ⟨rfl, rfl⟩ := trodVars_none hV
  obtain ⟨a0, rfl, rfl, rfl, w0⟩ := open_int Try.underlying5 (hval 0 5 v0 rfl rfl) h0
  obtain ⟨a1, rfl, rfl, rfl, w1⟩ := open_int Try.underlying5 (hval 1 5 v1 rfl rfl) h1
  clear hA0 hval0
  simp only [List.append_nil] at hW'
  refine (walk a0 w0 a1 w1 W).mono fun e W' ⟨he, hg⟩ => ?_
  subst he
  exact ⟨_, rfl, post_of_below (pa := []) (pv := []) hW' (fun _ _ _ => trodAll_cons_mk (shut_bool Try.underlying4 _) trodAll_mk0) (fun sp _ => (trodAll_cons_mk (shut_int Try.underlying5 w0) (trodAll_cons_mk (shut_int Try.underlying5 w1) trodAll_mk0))) (fun _ _ => rfl) rfl
    hg (ok_one (by kernel_rfl) rfl (okWide_bool_mk Try.underlying4 _))⟩

theorem proved : Rows.ConvolMemorySaid :=
  OpenClaim.holds_of_wide 6 Try.f6 rfl rfl rfl rfl rfl rfl rfl ⟨rfl, rfl, rfl, rfl, rfl⟩ rfl rfl rfl rfl rfl (by kernel_rfl) Try.func6 (by kernel_rfl)
    (of_decide_eq_true (by kernel_rfl)) (by unfold Func.isWrapper; first | (rw [if_pos (by decide +kernel)]; kernel_rfl) | (rw [if_neg (by decide +kernel)]; exact ⟨rfl, rfl⟩))
    (fun os started H enc _ => lifted os started H enc)
#print axioms proved
end convolMemory
end Go.Proofs.Ytcigbnhlgboeoaa
