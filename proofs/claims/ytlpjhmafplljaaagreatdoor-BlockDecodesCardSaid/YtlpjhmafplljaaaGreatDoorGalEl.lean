/- The contracts of galois' Mul, Div, Pow, Log over this program. -/
import Derived.Test.YtlpjhmafplljaaaGreatDoorGalTab
namespace Go.Proofs.YtlpjhmafplljaaaGreatDoor
open Go.RowKit
set_option linter.unusedVariables false

theorem iTabs : (Tryz.prog.info? 86).map (·.size) = some tabs.size := iTab _
theorem tabs_size : (arrK .u8 511 (fun _ => 0)).size = tabs.size := by unfold tabs; rw [arrK_size, arrK_size]
theorem zc : Tryz.zeroCells86 = arrK .u8 511 (fun _ => 0) := by rw [arrK_zero]; kernel_rfl
theorem new_tabs (w : World) : Tabs (w.alloc (.cells Tryz.zeroCells86 86)) w.heap.size (fun _ => 0) := by rw [zc]; exact RowK.new w .u8 511 86 (fun _ => 0)
theorem withTab_tabs (w : World) : Tabs ((w.alloc (.cells Tryz.zeroCells86 86)).setRow w.heap.size tabs) w.heap.size Gal.tab := setRow_heap _ _ _ _ _ _ (new_tabs w)
theorem withTab_below (w : World) : Below w.heap.size w ((w.alloc (.cells Tryz.zeroCells86 86)).setRow w.heap.size tabs) := below_setRow (ba (Below.refl _ _) _) (Nat.le_refl _) _
theorem withTab_size (w : World) : ((w.alloc (.cells Tryz.zeroCells86 86)).setRow w.heap.size tabs).heap.size = w.heap.size + 1 := by
  rw [setRow_size, World.size_alloc]

set_option maxRecDepth 100000 in
theorem mul_any (x y : BitVec 8) (w : World) :
    Calls Tryz.prog 103 #[.int .u8 (x.toNat : Nat), .int .u8 (y.toNat : Nat)] w fun e w' => e = .returned (.int .u8 ((Gal.mul x y).toNat : Nat)) ∧ Below w.heap.size w w' := by
  have FL := Lib.hid (fun w => filled_any w)
  have PR := Lib.hid (fun b w T => product_any b x y w T)
  obtain ⟨X, hX⟩ : ∃ X, x.toNat = X := ⟨_, rfl⟩
  obtain ⟨Y, hY⟩ : ∃ X, y.toNat = X := ⟨_, rfl⟩
  obtain ⟨V, hV⟩ : ∃ X, (Gal.mul x y).toNat = X := ⟨_, rfl⟩
  rw [hX, hY, hV] at PR
  rw [hX, hY, hV]
  clear hX hY hV
  go_enter Tryz.func103, Tryz.ntmps103
  go_wp2_with fail
  (with_reducible refine (FL.out _).mono ?_)
  rintro e w1 ⟨rfl, hB⟩
  have HB := Lib.hid hB
  clear hB
  go_wp2_with (refine wpList_store_row rfl 86 (.tmp 5) (.tmp 6) rfl w1.heap.size tabs rfl rfl _ _ (new_tabs w1) iTabs tabs_size (arrK_one _ _ _) ?_)
  (with_reducible refine (PR.out _ _ (withTab_tabs w1)).mono ?_)
  rintro e w2 ⟨rfl, n, rfl⟩
  have HB2 := Lib.hid (below_drewN (bt HB.out (withTab_below w1)) n)
  go_wp2_with fail
  go_ret
  exact ⟨rfl, HB2.out⟩
theorem eq0 {x : BitVec 8} (h : x ≠ 0#8) : ((x.toNat : Int) == 0) = false := by
  rw [beq_eq_false_iff_ne]
  intro e
  exact h (BitVec.eq_of_toNat_eq (by simpa using e))
set_option maxRecDepth 100000 in
theorem div_any (x y : BitVec 8) (w : World) :
    Calls Tryz.prog 104 #[.int .u8 (x.toNat : Nat), .int .u8 (y.toNat : Nat)] w fun e w' => e = .returned (.tuple #[.int .u8 ((Gal.divV x y).toNat : Nat), .int .i64 (Gal.divE y)]) ∧ Below w.heap.size w w' := by
  by_cases h : y = 0#8
  · subst h
    have B := Lib.hid (Below.refl w.heap.size w)
    rw [show (Gal.divV x 0#8).toNat = 0 from rfl, show Gal.divE 0#8 = 2 from rfl, show ((0#8).toNat : Int) = 0 from rfl, show ((0 : Nat) : Int) = 0 from rfl]
    obtain ⟨X, hX⟩ : ∃ X, x.toNat = X := ⟨_, rfl⟩
    rw [hX]
    clear hX
    go_enter Tryz.func104, Tryz.ntmps104
    go_wp2_with fail
    go_ret2
    exact ⟨rfl, B.out⟩
  · have y0 := eq0 h
    rw [show Gal.divE y = 0 from if_neg h, show Gal.divV x y = Gal.mul x (Gal.inv y) from if_neg h]
    have FL := Lib.hid (fun w => filled_any w)
    have IV := Lib.hid (fun b w T => inverse_any b y w T)
    have PR := Lib.hid (fun b w T => product_any b x (Gal.inv y) w T)
    obtain ⟨X, hX⟩ : ∃ X, x.toNat = X := ⟨_, rfl⟩
    obtain ⟨Y, hY⟩ : ∃ X, y.toNat = X := ⟨_, rfl⟩
    obtain ⟨I, hI⟩ : ∃ X, (Gal.inv y).toNat = X := ⟨_, rfl⟩
    obtain ⟨V, hV⟩ : ∃ X, (Gal.mul x (Gal.inv y)).toNat = X := ⟨_, rfl⟩
    rw [hX, hI, hV] at PR
    rw [hY, hI] at IV
    rw [hY] at y0
    rw [hX, hY, hV]
    clear hX hY hV hI h
    go_enter Tryz.func104, Tryz.ntmps104
    go_wp2_with fail
    (with_reducible refine (FL.out _).mono ?_)
    rintro e w1 ⟨rfl, hB⟩
    have HB := Lib.hid hB
    clear hB
    go_wp2_with (refine wpList_store_row rfl 86 (.tmp 6) (.tmp 9) rfl w1.heap.size tabs rfl rfl _ _ (new_tabs w1) iTabs tabs_size (arrK_one _ _ _) ?_)
    (with_reducible refine (IV.out _ _ (withTab_tabs w1)).mono ?_)
    rintro e w2 ⟨rfl, rfl⟩
    go_wp2_with fail
    (with_reducible refine (PR.out _ _ (withTab_tabs w1)).mono ?_)
    rintro e w2 ⟨rfl, n, rfl⟩
    have HB2 := Lib.hid (below_drewN (bt HB.out (withTab_below w1)) n)
    go_wp2_with fail
    go_ret2
    exact ⟨rfl, HB2.out⟩
set_option maxRecDepth 100000 in
theorem pow_any (x : BitVec 8) (n : Int) (w : World) :
    Calls Tryz.prog 74 #[.int .u8 (x.toNat : Nat), .int .i64 n] w fun e w' => e = .returned (.tuple #[.int .u8 ((Gal.powV x n).toNat : Nat), .int .i64 (Gal.powE x n)]) ∧ Below w.heap.size w w' := by
  have B := Lib.hid (Below.refl w.heap.size w)
  by_cases hn : n = 0
  · subst hn
    have e1 : Gal.powV x 0 = 1#8 := by
      unfold Gal.powV
      split
      · rfl
      · rw [Int.mul_zero]; rfl
    have e2 : Gal.powE x 0 = 0 := by
      unfold Gal.powE
      rw [if_neg (by omega)]
    rw [e1, e2, show ((1#8).toNat : Int) = 1 from rfl]
    obtain ⟨X, hX⟩ : ∃ X, x.toNat = X := ⟨_, rfl⟩
    rw [hX]
    clear hX e1 e2
    go_enter Tryz.func74, Tryz.ntmps74
    go_wp2_with fail
    go_ret2
    exact ⟨rfl, B.out⟩
  have n0 : (n == 0) = false := by rw [beq_eq_false_iff_ne]; exact hn
  by_cases h : x = 0#8
  · subst h
    have e1 : Gal.powV 0#8 n = 0#8 := by
      unfold Gal.powV
      rw [if_pos rfl, if_neg hn]
    rw [e1, show ((0#8).toNat : Int) = 0 from rfl]
    by_cases g : n < 0
    · rw [show Gal.powE 0#8 n = 2 from if_pos ⟨rfl, g⟩]
      have g1 : decide (n < 0) = true := decide_eq_true g
      clear e1 hn
      go_enter Tryz.func74, Tryz.ntmps74
      go_wp2_with fail
      go_ret2
      exact ⟨rfl, B.out⟩
    · rw [show Gal.powE 0#8 n = 0 from if_neg (fun q => g q.2)]
      have g1 : decide (n < 0) = false := decide_eq_false g
      clear e1 hn
      go_enter Tryz.func74, Tryz.ntmps74
      go_wp2_with fail
      go_ret2
      exact ⟨rfl, B.out⟩
  · have y0 := eq0 h
    have l1 := Gal.lg_lt x
    obtain ⟨r, hr⟩ : ∃ r, n.tmod 255 = r := ⟨_, rfl⟩
    have ht : n = 255 * (n.tdiv 255) + n.tmod 255 := (Int.mul_tdiv_add_tmod n 255).symm
    have r1 : -255 < r := by rw [← hr]; have := Int.lt_tmod_of_pos n (show (0 : Int) < 255 by omega); omega
    have r2 : r < 255 := by rw [← hr]; exact Int.tmod_lt_of_pos n (by omega)
    have e1 : Gal.powV x n = Gal.pwi ((Gal.lg x : Int) * r) := by
      unfold Gal.powV
      rw [if_neg h, ← hr, Gal.pow_tmod]
    obtain ⟨L, hL⟩ : ∃ X, Gal.lg x = X := ⟨_, rfl⟩
    have LG := Lib.hid (fun b w T => log_any b x w T)
    rw [hL] at e1 l1 LG
    have b1 : (L : Int) * r ≤ 254 * 254 := by
      have := Int.mul_le_mul (show (L : Int) ≤ 254 by omega) (show r ≤ 254 by omega)
      by_cases p : 0 ≤ r
      · exact Int.mul_le_mul (by omega) (by omega) p (by omega)
      · have : (L : Int) * r ≤ 0 := Int.mul_nonpos_of_nonneg_of_nonpos (by omega) (by omega)
        omega
    have b2 : -(254 * 254) ≤ (L : Int) * r := by
      by_cases p : 0 ≤ r
      · have : 0 ≤ (L : Int) * r := Int.mul_nonneg (by omega) p
        omega
      · have : (L : Int) * (-r) ≤ 254 * 254 := Int.mul_le_mul (by omega) (by omega) (by omega) (by omega)
        rw [Int.mul_neg] at this
        omega
    rw [e1, show Gal.powE x n = 0 from if_neg (fun q => h q.1)]
    have FL := Lib.hid (fun w => filled_any w)
    obtain ⟨m, hm⟩ : ∃ m, (L : Int) * r = m := ⟨_, rfl⟩
    rw [hm] at b1 b2 ⊢
    have PW := Lib.hid (fun b w T => power_any b m (by omega) (by omega) w T)
    have hw : IntKind.i64.wrap ((L : Int) * r) = m := by rw [hm, IntKind.wrap_i64]; omega
    obtain ⟨X, hX⟩ : ∃ X, x.toNat = X := ⟨_, rfl⟩
    obtain ⟨V, hV⟩ : ∃ X, (Gal.pwi m).toNat = X := ⟨_, rfl⟩
    rw [hX] at LG y0 ⊢
    rw [hV] at PW ⊢
    clear hX hV h hm ht e1 hL hn b1 b2 l1
    go_enter Tryz.func74, Tryz.ntmps74
    go_wp2_with fail
    (with_reducible refine (FL.out _).mono ?_)
    rintro e w1 ⟨rfl, hB⟩
    have HB := Lib.hid hB
    clear hB
    go_wp2_with (refine wpList_store_row rfl 86 (.tmp 6) (.tmp 20) rfl w1.heap.size tabs rfl rfl _ _ (new_tabs w1) iTabs tabs_size (arrK_one _ _ _) ?_)
    (with_reducible refine (LG.out _ _ (withTab_tabs w1)).mono ?_)
    rintro e w2 ⟨rfl, rfl⟩
    go_wp2_with fail
    (with_reducible refine (PW.out _ _ (withTab_tabs w1)).mono ?_)
    rintro e w2 ⟨rfl, rfl⟩
    have HB2 := Lib.hid (bt HB.out (withTab_below w1))
    go_wp2_with fail
    go_ret2
    exact ⟨rfl, HB2.out⟩
end Go.Proofs.YtlpjhmafplljaaaGreatDoor
