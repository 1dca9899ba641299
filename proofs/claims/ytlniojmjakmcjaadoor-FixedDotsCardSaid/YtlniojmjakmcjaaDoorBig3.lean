/- The contracts of perigeeref01's Half and Sub over this program. -/
import Derived.Test.YtlniojmjakmcjaaDoorBig2
namespace Go.Proofs.YtlniojmjakmcjaaDoor
open Go.RowKit
set_option linter.unusedVariables false

structure HalfAt (B : Nat) (x k : Nat) (w w' : World) : Prop where
  below : Below B w w'
  r1 : Row w' B (fun j => if j < k then BigM.dg (x / 2) j else BigM.dg x j)
  r2 : Row w' (B + 1) (fun _ => 0)

theorem HalfAt.drew {B x k : Nat} {w w' : World} (S : HalfAt B x k w w') : HalfAt B x k w w'.drew := ⟨S.below.drew, S.r1, S.r2⟩
theorem half_store1 {B x k : Nat} {w w' : World} (S : HalfAt B x k w w') (hk : k < 17) : HalfAt B x (k + 1) w (w'.setCell ⟨B, k, none⟩ (.int .u64 (BigM.dg (x / 2) k : Nat))) := by
  obtain ⟨b, r1, r2⟩ := S
  refine ⟨Below.setCell (p := ⟨B, k, none⟩) b (Nat.le_refl B) _, (r1.set k (BigM.dg (x / 2) k)).congr (fun j hj => ?_), r2.setOther (by omega) _⟩
  by_cases h : j = k
  · subst h; simp
  · by_cases g : j < k
    · rw [if_neg h, if_pos g, if_pos (by omega)]
    · rw [if_neg h, if_neg g, if_neg (by omega)]

theorem half_mid {B x k : Nat} {w w' : World} (S : HalfAt B x k w w') (hk : k < 17) (m : Nat) : HalfAt B x (k + 1) w ((w'.setCell ⟨B, k, none⟩ (.int .u64 (m : Nat))).setCell ⟨B, k, none⟩ (.int .u64 (BigM.dg (x / 2) k : Nat))) := by
  obtain ⟨b, r1, r2⟩ := S
  refine ⟨Below.setCell (p := ⟨B, k, none⟩) (Below.setCell (p := ⟨B, k, none⟩) b (Nat.le_refl B) _) (Nat.le_refl B) _, ((r1.set k m).set k (BigM.dg (x / 2) k)).congr (fun j hj => ?_), (r2.setOther (by omega) _).setOther (by omega) _⟩
  by_cases h : j = k
  · subst h; simp
  · by_cases g : j < k
    · rw [if_neg h, if_neg h, if_pos g, if_pos (by omega)]
    · rw [if_neg h, if_neg h, if_neg g, if_neg (by omega)]

set_option maxHeartbeats 4000000 in
theorem bigHalf_any (x : Nat) (hx : x < 65536 ^ 17) (w : World) :
    Calls Tryd.prog 47 #[Big x] w fun e w' => e = .returned (Big (x / 2)) ∧ Below w.heap.size w w' := by
  have X17 := Lib.hid (BigM.dg_small x 17 hx)
  clear hx
  unfold Big
  go_enter Tryd.func47, Tryd.ntmps47
  go_wp2_with fail
  go_loopw [3] (fun i wr => ∃ k : Nat, i = .int .i64 k ∧ k ≤ 17 ∧ HalfAt w.heap.size x k w wr) (fun i _ => 17 - (intOf i).toNat)
  case atStart =>
    refine ⟨0, rfl, by omega, ⟨by go_grown, ?_, ?_⟩⟩
    · exact ((row_new w (BigM.dg x)).alloc _).congr (fun j hj => by simp)
    · have := row_new (w.alloc (.cells (arr (BigM.dg x)) 47)) (fun _ => 0)
      rw [World.size_alloc] at this
      exact this
  case round =>
    obtain ⟨k, rfl, hk, S⟩ := hrel
    by_cases hlt : k < 17
    · have c1 := S.r1.cell hlt
      have f1 := S.r1.frozen k
      simp only [Nat.lt_irrefl, if_false] at c1
      have hh := BigM.dg_half x k
      have dx := BigM.dg_lt x k
      have SS := Lib.hid S
      have k0 : (0 : Int) ≤ (k : Int) := by omega
      have k1 : (k : Int) < 17 := by omega
      obtain ⟨d, hd⟩ : ∃ q, BigM.dg x k = q := ⟨_, rfl⟩
      obtain ⟨h, hh'⟩ : ∃ q, BigM.dg (x / 2) k = q := ⟨_, rfl⟩
      rw [hd] at c1 hh dx
      rw [hh'] at hh
      have H := Lib.hid hh'
      by_cases last : k < 16
      · have c2 := S.r1.cell (show k + 1 < 17 by omega)
        have nk : ¬ k + 1 < k := by omega
        simp only [nk, if_false] at c2
        have dy := BigM.dg_lt x (k + 1)
        obtain ⟨d2, hd2⟩ : ∃ q, BigM.dg x (k + 1) = q := ⟨_, rfl⟩
        rw [hd2] at c2 hh dy
        obtain ⟨m, hm⟩ : ∃ m, d + d2 % 2 * 65536 = m := ⟨_, rfl⟩
        have e1 : (d : Int) + (d2 : Int) % 2 * 65536 = (m : Int) := by omega
        have e2 : (m : Int) / 2 = (h : Int) := by omega
        have l1 : (k : Int) + 1 < 17 := by omega
        have ml : m < 200000 := by omega
        have M := Lib.hid e1
        have E := Lib.hid e2
        clear S hh hd hd2 hh' nk hm
        go_upto_region 5 with fail
        go_region
        go_wp2_with fail
        go_roundw
        case rel => exact ⟨k + 1, by simp, by omega, by rw [← H.out]; exact (half_mid SS.out hlt m).drew⟩
        case measure => first | (simp [intOf]; done) | (simp [intOf]; omega)
      · obtain rfl : k = 16 := by omega
        have z : BigM.dg x (16 + 1) = 0 := X17.out
        rw [z] at hh
        have e2 : (d : Int) / 2 = (h : Int) := by omega
        clear S hh hd hh' z
        go_wp2_with fail
        go_roundw
        case rel => exact ⟨17, rfl, by omega, by have := half_store1 SS.out (show 16 < 17 by omega); rw [H.out] at this; exact this⟩
        case measure => simp [intOf]
    · obtain rfl : k = 17 := by omega
      have r1 : Row wr w.heap.size (BigM.dg (x / 2)) := S.r1.congr (fun j hj => by simp [hj])
      have HB := Lib.hid S.below
      have H1 := Lib.hid r1
      have H3 := Lib.hid S.r2
      clear S r1
      go_wp2_with (first
        | (refine wpList_load_row rfl 47 (.tmp 1) rfl w.heap.size rfl _ _ _ _ H1.out uBig rfl (iBig _) ?_)
        | (refine wpList_store_row rfl 47 (.tmp 2) (.tmp 29) rfl (w.heap.size + 1) (arr (BigM.dg (x / 2))) rfl rfl _ _ H3.out (iBig _) (by rw [arr_size, arr_size]) (arr_one _) ?_))
      exact bodyPost_ret (v := .agg (arr (BigM.dg (x / 2)))) (results_cell_row Tryd.results47 _ _ (w.heap.size + 1) 47 (arr (BigM.dg (x / 2))) (0, 0) _ rfl (setRow_heap _ _ _ _ _ _ H3.out) uBig rfl (iBig _)) rfl ⟨rfl, below_setRow HB.out (by omega) _⟩
end Go.Proofs.YtlniojmjakmcjaaDoor
