/- The contract of perigeeref01's Times over this program. -/
import Derived.Test.YtlniojmjakmcjaaDoorBig5
namespace Go.Proofs.YtlniojmjakmcjaaDoor
open Go.RowKit
set_option linter.unusedVariables false

namespace BigM
/-- What has been added up to the digit i + k. -/
def acc (v d y i k : Nat) : Nat := v % 65536 ^ (i + k) + d * 65536 ^ i * (y % 65536 ^ k)
def tc (v d y i k : Nat) : Nat := acc v d y i k / 65536 ^ (i + k)
theorem tc_zero (v d y i : Nat) : tc v d y i 0 = 0 := by
  unfold tc acc
  rw [Nat.pow_zero, Nat.mod_one, Nat.mul_zero, Nat.add_zero, Nat.add_zero]
  exact Nat.div_eq_of_lt (Nat.mod_lt _ (pow_pos i))
theorem acc_succ (v d y i k : Nat) : acc v d y i (k + 1) = acc v d y i k + 65536 ^ (i + k) * (dg v (i + k) + d * dg y k) := by
  unfold acc
  rw [← Nat.add_assoc, mod_succ, mod_succ, Nat.mul_add, Nat.mul_add, Nat.pow_add]
  have : d * 65536 ^ i * (65536 ^ k * dg y k) = 65536 ^ i * 65536 ^ k * (d * dg y k) := by grind
  omega
theorem tc_succ (v d y i k : Nat) : tc v d y i (k + 1) = (tc v d y i k + dg v (i + k) + d * dg y k) / 65536 := by
  unfold tc
  rw [acc_succ, ← Nat.add_assoc, Nat.pow_succ, ← Nat.div_div_eq_div_mul, Nat.add_mul_div_left _ _ (pow_pos _), Nat.add_assoc]
theorem tc_le (v d y i k : Nat) (hd : d < 65536) : tc v d y i k ≤ 65536 := by
  unfold tc acc
  have a := Nat.mod_lt v (pow_pos (i + k))
  have b := Nat.mod_lt y (pow_pos k)
  apply Nat.le_of_lt_succ
  rw [Nat.div_lt_iff_lt_mul (pow_pos _)]
  have c : d * 65536 ^ i * (y % 65536 ^ k) ≤ 65536 * 65536 ^ i * 65536 ^ k := Nat.mul_le_mul (Nat.mul_le_mul_right _ (Nat.le_of_lt hd)) (Nat.le_of_lt b)
  have e : 65536 * 65536 ^ i * 65536 ^ k = 65536 * 65536 ^ (i + k) := by rw [Nat.pow_add, Nat.mul_assoc]
  rw [e] at c
  have f : Nat.succ 65536 * 65536 ^ (i + k) = 65536 * 65536 ^ (i + k) + 65536 ^ (i + k) := Nat.succ_mul _ _
  omega
theorem acc_mod (v d y i k : Nat) : (v + d * 65536 ^ i * y) % 65536 ^ (i + k) = acc v d y i k % 65536 ^ (i + k) := by
  unfold acc
  have h := Nat.div_add_mod y (65536 ^ k)
  have e : d * 65536 ^ i * y = d * 65536 ^ i * (y % 65536 ^ k) + 65536 ^ (i + k) * (d * (y / 65536 ^ k)) := by
    rw [Nat.pow_add]
    have : d * 65536 ^ i * y = d * 65536 ^ i * (65536 ^ k * (y / 65536 ^ k) + y % 65536 ^ k) := by rw [h]
    rw [this]
    grind
  rw [e, ← Nat.add_assoc, Nat.add_mul_mod_self_left, Nat.mod_add_mod]
theorem dg_times (v d y i k : Nat) : dg (v + d * 65536 ^ i * y) (i + k) = (tc v d y i k + dg v (i + k) + d * dg y k) % 65536 := by
  have m : (v + d * 65536 ^ i * y) % 65536 ^ (i + k + 1) = acc v d y i (k + 1) % 65536 ^ (i + k + 1) := acc_mod v d y i (k + 1)
  have e : dg (v + d * 65536 ^ i * y) (i + k) = dg (acc v d y i (k + 1)) (i + k) := dg_low (i := i + k + 1) m (by omega)
  rw [e, acc_succ]
  unfold dg tc
  rw [Nat.add_mul_div_left _ _ (pow_pos _), ← Nat.add_assoc]
theorem part_succ (x y i : Nat) : x % 65536 ^ (i + 1) * y = x % 65536 ^ i * y + dg x i * 65536 ^ i * y := by rw [mod_succ]; grind
theorem part_lt {x y : Nat} (hy : y < 65536 ^ 8) (i : Nat) : x % 65536 ^ i * y < 65536 ^ (i + 8) := by
  have a := Nat.mod_lt x (pow_pos i)
  rw [Nat.pow_add]
  exact Nat.lt_of_le_of_lt (Nat.mul_le_mul_right y (Nat.le_of_lt a)) (Nat.mul_lt_mul_of_pos_left hy (pow_pos i))
theorem part_end {x y : Nat} (hx : x < 65536 ^ 8) : x % 65536 ^ 8 * y = x * y := by rw [Nat.mod_eq_of_lt hx]
theorem dg_zero {v i j : Nat} (h : v < 65536 ^ i) (hj : i ≤ j) : dg v j = 0 := dg_small v j (Nat.lt_of_lt_of_le h (Nat.pow_le_pow_right (by decide) hj))
end BigM

structure TimesAt (B : Nat) (f : Nat → Nat) (x y : Nat) (w w' : World) : Prop where
  below : Below B w w'
  r1 : Row w' B (BigM.dg x)
  r2 : Row w' (B + 1) (BigM.dg y)
  r3 : Row w' (B + 1 + 1) (fun _ => 0)
  r4 : Row w' (B + 1 + 1 + 1) f
theorem TimesAt.set {B x y : Nat} {f g : Nat → Nat} {w w' : World} (S : TimesAt B f x y w w') (k n : Nat) (h : ∀ j, j < 17 → (if j = k then n else f j) = g j) : TimesAt B g x y w (w'.setCell ⟨B + 1 + 1 + 1, k, none⟩ (.int .u64 (n : Nat))) :=
  ⟨Below.setCell (p := ⟨B + 1 + 1 + 1, k, none⟩) S.below (by simp; omega) _, S.r1.setOther (by omega) _, S.r2.setOther (by omega) _, S.r3.setOther (by omega) _, (S.r4.set k n).congr h⟩
theorem TimesAt.drewN {B x y : Nat} {f : Nat → Nat} {w w' : World} (S : TimesAt B f x y w w') (n : Nat) : TimesAt B f x y w (w'.drewN n) := ⟨below_drewN S.below n, S.r1, S.r2, S.r3, S.r4⟩
theorem TimesAt.congr {B x y : Nat} {f g : Nat → Nat} {w w' : World} (S : TimesAt B f x y w w') (h : ∀ j, j < 17 → f j = g j) : TimesAt B g x y w w' := ⟨S.below, S.r1, S.r2, S.r3, S.r4.congr h⟩

set_option maxHeartbeats 8000000 in
theorem bigTimes_any (x y : Nat) (hx : x < 65536 ^ 8) (hy : y < 65536 ^ 8) (w : World) :
    Calls Tryd.prog 31 #[Big x, Big y] w fun e w' => e = .returned (Big (x * y)) ∧ Below w.heap.size w w' := by
  have HX := Lib.hid hx
  have HY := Lib.hid hy
  clear hx hy
  unfold Big
  go_enter Tryd.func31, Tryd.ntmps31
  go_wp2_with fail
  go_loopw [6] (fun a wr => ∃ i : Nat, a = .int .i64 i ∧ i ≤ 8 ∧ TimesAt w.heap.size (BigM.dg (x % 65536 ^ i * y)) x y w wr) (fun a _ => 8 - (intOf a).toNat)
  case atStart =>
    refine ⟨0, rfl, by omega, ⟨by go_grown, ?_, ?_, ?_, ?_⟩⟩
    · exact (((row_new w (BigM.dg x)).alloc _).alloc _).alloc _
    · have := ((row_new (w.alloc (.cells (arr (BigM.dg x)) 47)) (BigM.dg y)).alloc (.cells (arr (fun _ => 0)) 47)).alloc (.cells (arr (fun _ => 0)) 47)
      rw [World.size_alloc] at this
      exact this
    · have := (row_new ((w.alloc (.cells (arr (BigM.dg x)) 47)).alloc (.cells (arr (BigM.dg y)) 47)) (fun _ => 0)).alloc (.cells (arr (fun _ => 0)) 47)
      rw [World.size_alloc, World.size_alloc] at this
      exact this
    · have := row_new (((w.alloc (.cells (arr (BigM.dg x)) 47)).alloc (.cells (arr (BigM.dg y)) 47)).alloc (.cells (arr (fun _ => 0)) 47)) (fun _ => 0)
      rw [World.size_alloc, World.size_alloc, World.size_alloc] at this
      exact Row.congr this (fun j hj => by simp [BigM.dg, Nat.mod_one])
  case round =>
    obtain ⟨i, rfl, hi, S⟩ := hrel
    by_cases hlt : i < 8
    · have vl := BigM.part_lt (x := x) HY.out i
      have vl2 := BigM.part_lt (x := x) HY.out (i + 1)
      have ps := BigM.part_succ x y i
      have dx := BigM.dg_lt x i
      have HDX := Lib.hid (show BigM.dg x i = BigM.dg x i from rfl)
      obtain ⟨v, hv⟩ : ∃ v, x % 65536 ^ i * y = v := ⟨_, rfl⟩
      obtain ⟨d, hd⟩ : ∃ d, BigM.dg x i = d := ⟨_, rfl⟩
      rw [hv] at S vl ps
      rw [hd] at ps dx
      rw [ps] at vl2
      have SS := Lib.hid S
      have VL := Lib.hid vl
      have VL2 := Lib.hid vl2
      have PS := Lib.hid ps
      have D := Lib.hid hd
      clear S vl vl2 ps hv hd HDX
      go_wp2_with fail
      go_loopw [7, 8] (fun c a wr => ∃ k : Nat, a = .int .i64 k ∧ c = .int .u64 (BigM.tc v d y i k : Nat) ∧ k ≤ 9 ∧ TimesAt w.heap.size (fun j => if j < i + k then BigM.dg (v + d * 65536 ^ i * y) j else BigM.dg v j) x y w wr) (fun _ a _ => 9 - (intOf a).toNat)
      case atStart =>
        refine ⟨0, rfl, by rw [BigM.tc_zero]; rfl, by omega, SS.out.congr (fun j hj => ?_)⟩
        show BigM.dg v j = if j < i + 0 then BigM.dg (v + d * 65536 ^ i * y) j else BigM.dg v j
        split
        · exact (BigM.dg_low (i := i) (by rw [show v + d * 65536 ^ i * y = v + 65536 ^ i * (d * y) by grind, Nat.add_mul_mod_self_left]) (by omega))
        · rfl
      case round =>
        obtain ⟨k, rfl, rfl, hk, S⟩ := hrel
        by_cases hlk : k < 9
        · have c4 := S.r4.cell (show i + k < 17 by omega)
          have f4 := S.r4.frozen (i + k)
          simp only [Nat.lt_irrefl, if_false] at c4
          have c1 := S.r1.cell (show i < 17 by omega)
          rw [D.out] at c1
          have c2 := S.r2.cell (show k < 17 by omega)
          have dy := BigM.dg_lt y k
          have dv := BigM.dg_lt v (i + k)
          have tl := BigM.tc_le v d y i k dx
          have ts := BigM.tc_succ v d y i k
          have dt := BigM.dg_times v d y i k
          obtain ⟨c, hc⟩ : ∃ c, BigM.tc v d y i k = c := ⟨_, rfl⟩
          obtain ⟨c', hc'⟩ : ∃ c, BigM.tc v d y i (k + 1) = c := ⟨_, rfl⟩
          obtain ⟨e, he⟩ : ∃ e, BigM.dg y k = e := ⟨_, rfl⟩
          obtain ⟨f, hf⟩ : ∃ e, BigM.dg v (i + k) = e := ⟨_, rfl⟩
          obtain ⟨g, hg⟩ : ∃ e, BigM.dg (v + d * 65536 ^ i * y) (i + k) = e := ⟨_, rfl⟩
          rw [hc] at tl ts dt ⊢
          rw [hc'] at ts
          rw [he] at c2 dy ts dt
          rw [hf] at c4 dv ts dt
          rw [hg] at dt
          have pl : d * e ≤ 65535 * 65535 := Nat.mul_le_mul (by omega) (by omega)
          obtain ⟨p, hp⟩ : ∃ p, d * e = p := ⟨_, rfl⟩
          rw [hp] at pl ts dt
          have e1 : (d : Int) * (e : Int) = (p : Int) := by rw [← hp]; simp
          have e2 : ((c : Int) + (f : Int) + (p : Int)) % 65536 = (g : Int) := by omega
          have e3 : ((c : Int) + (f : Int) + (p : Int)) / 65536 = (c' : Int) := by omega
          have E3 := Lib.hid e3
          have S2 := Lib.hid S
          have C := Lib.hid hc'
          have G := Lib.hid hg
          have i0 : (0 : Int) ≤ (i : Int) := by omega
          have i1 : (i : Int) < 17 := by omega
          have k0 : (0 : Int) ≤ (k : Int) := by omega
          have k1 : (k : Int) < 17 := by omega
          have s0 : (0 : Int) ≤ (i : Int) + (k : Int) := by omega
          have s1 : (i : Int) + (k : Int) < 17 := by omega
          have s2 : IntKind.i64.wrap ((i : Int) + (k : Int)) = (i : Int) + (k : Int) := IntWalk.i64_in _ (by omega)
          have s3 : ((i : Int) + (k : Int)).toNat = i + k := by omega
          clear S ts dt hc hc' he hf hg hp
          go_upto_region 9 with fail
          go_quiet (fail)
          go_wp2_with fail
          go_roundw
          case rel => exact ⟨k + 1, by simp, by rw [C.out, ← E3.out], by omega, (S2.out.drewN _).set (i + k) g (fun j hj => by
            by_cases h : j = i + k
            · subst h; rw [if_pos rfl, if_pos (by omega), G.out]
            · rw [if_neg h]
              by_cases h2 : j < i + k
              · rw [if_pos h2, if_pos (by omega)]
              · rw [if_neg h2, if_neg (by omega)])⟩
          case measure => first | (simp [intOf]; done) | (simp [intOf]; omega)
        · obtain rfl : k = 9 := by omega
          have S2 : Hid (TimesAt w.heap.size (BigM.dg (x % 65536 ^ (i + 1) * y)) x y w wr) := Lib.hid (S.congr (fun j hj => by
            rw [PS.out]
            by_cases h : j < i + 9
            · rw [if_pos h]
            · rw [if_neg h, BigM.dg_zero VL.out (by omega), BigM.dg_zero VL2.out (by omega)]))
          clear S
          go_wp2_with fail
          go_roundw
          case rel => exact ⟨i + 1, by simp, by omega, S2.out⟩
          case measure => first | (simp [intOf]; done) | (simp [intOf]; omega)
    · obtain rfl : i = 8 := by omega
      have r4 : Row wr (w.heap.size + 1 + 1 + 1) (BigM.dg (x * y)) := by have := S.r4; rw [BigM.part_end HX.out] at this; exact this
      have HB := Lib.hid S.below
      have H1 := Lib.hid r4
      have H3 := Lib.hid S.r3
      clear S r4
      go_wp2_with (first
        | (refine wpList_load_row rfl 47 (.tmp 5) rfl (w.heap.size + 1 + 1 + 1) rfl _ _ _ _ H1.out uBig rfl (iBig _) ?_)
        | (refine wpList_store_row rfl 47 (.tmp 4) (.tmp 40) rfl (w.heap.size + 1 + 1) (arr (BigM.dg (x * y))) rfl rfl _ _ H3.out (iBig _) (by rw [arr_size, arr_size]) (arr_one _) ?_))
      exact bodyPost_ret (v := .agg (arr (BigM.dg (x * y)))) (results_cell_row Tryd.results31 _ _ (w.heap.size + 1 + 1) 47 (arr (BigM.dg (x * y))) (0, 0) _ rfl (setRow_heap _ _ _ _ _ _ H3.out) uBig rfl (iBig _)) rfl ⟨rfl, below_setRow HB.out (by omega) _⟩
end Go.Proofs.YtlniojmjakmcjaaDoor
