/- The contract of perigeeref01's Sub over this program: the walk. -/
import Derived.Test.YtlniojmjakmcjaaDoorBig4
namespace Go.Proofs.YtlniojmjakmcjaaDoor
open Go.RowKit
set_option linter.unusedVariables false

structure SubAt (B : Nat) (f : Nat → Nat) (y : Nat) (w w' : World) : Prop where
  below : Below B w w'
  r1 : Row w' B f
  r2 : Row w' (B + 1) (BigM.dg y)
  r3 : Row w' (B + 1 + 1) (fun _ => 0)
theorem SubAt.set {B y : Nat} {f g : Nat → Nat} {w w' : World} (S : SubAt B f y w w') (k n : Nat) (h : ∀ j, j < 17 → (if j = k then n else f j) = g j) : SubAt B g y w (w'.setCell ⟨B, k, none⟩ (.int .u64 (n : Nat))) :=
  ⟨Below.setCell (p := ⟨B, k, none⟩) S.below (Nat.le_refl B) _, (S.r1.set k n).congr h, S.r2.setOther (by omega) _, S.r3.setOther (by omega) _⟩
theorem SubAt.drewN {B y : Nat} {f : Nat → Nat} {w w' : World} (S : SubAt B f y w w') (n : Nat) : SubAt B f y w (w'.drewN n) := ⟨below_drewN S.below n, S.r1, S.r2, S.r3⟩
theorem SubAt.drew {B y : Nat} {f : Nat → Nat} {w w' : World} (S : SubAt B f y w w') : SubAt B f y w w'.drew := ⟨S.below.drew, S.r1, S.r2, S.r3⟩

set_option maxHeartbeats 8000000 in
theorem bigSub_any (x y : Nat) (hx : x < 65536 ^ 17) (hy : y < 65536 ^ 17) (hle : y ≤ x) (w : World) :
    Calls Tryd.prog 42 #[Big x, Big y] w fun e w' => e = .returned (Big (x - y)) ∧ Below w.heap.size w w' := by
  have HX := Lib.hid hx
  have HY := Lib.hid hy
  have HLE := Lib.hid hle
  clear hx hy hle
  unfold Big
  go_enter Tryd.func42, Tryd.ntmps42
  go_wp2_with fail
  go_loopw [5] (fun i wr => ∃ k : Nat, i = .int .i64 k ∧ k ≤ 17 ∧ SubAt w.heap.size (BigM.dg (BigM.left x y k)) y w wr) (fun i _ => 17 - (intOf i).toNat)
  case atStart =>
    refine ⟨0, rfl, by omega, ⟨by go_grown, ?_, ?_, ?_⟩⟩
    · rw [BigM.left_zero]; exact ((row_new w (BigM.dg x)).alloc _).alloc _
    · have := (row_new (w.alloc (.cells (arr (BigM.dg x)) 47)) (BigM.dg y)).alloc (.cells (arr (fun _ => 0)) 47)
      rw [World.size_alloc] at this
      exact this
    · have := row_new ((w.alloc (.cells (arr (BigM.dg x)) 47)).alloc (.cells (arr (BigM.dg y)) 47)) (fun _ => 0)
      rw [World.size_alloc, World.size_alloc] at this
      exact this
  case round =>
    obtain ⟨i, rfl, hk, S⟩ := hrel
    by_cases hlt : i < 17
    · have c1 := S.r1.cell hlt
      have c2 := S.r2.cell hlt
      have f1 := S.r1.frozen i
      have ul := BigM.left_lt (y := y) (i := i) HX.out
      have us := BigM.left_succ x y i
      have lh := BigM.left_high (i := i) HLE.out
      obtain ⟨u, hu⟩ : ∃ u, BigM.left x y i = u := ⟨_, rfl⟩
      rw [hu] at S c1 ul us lh
      have SS := Lib.hid S
      have k0 : (0 : Int) ≤ (i : Int) := by omega
      have k1 : (i : Int) < 17 := by omega
      have dx := BigM.dg_lt u i
      have dy := BigM.dg_lt y i
      have less := fun h j => BigM.dg_less (u := u) (i := i) (e := BigM.dg y i) h j
      have borrow := fun h p j => BigM.dg_borrow (u := u) (i := i) (e := BigM.dg y i) h (Nat.le_of_lt dy) p j
      rw [← us] at less borrow
      obtain ⟨d1, hd1⟩ : ∃ q, BigM.dg u i = q := ⟨_, rfl⟩
      obtain ⟨d2, hd2⟩ : ∃ q, BigM.dg y i = q := ⟨_, rfl⟩
      rw [hd1] at c1 dx lh less borrow
      rw [hd2] at c2 dy lh less borrow
      have LESS := Lib.hid less
      have BORROW := Lib.hid borrow
      have LH := Lib.hid lh
      have D1 := Lib.hid hd1
      have D2 := Lib.hid hd2
      have UL := Lib.hid ul
      clear S hu ul us lh less borrow hd1 hd2
      by_cases bo : d1 < d2
      · have bo' : (d1 : Int) < (d2 : Int) := by omega
        have pos := Lib.hid (LH.out bo)
        have BOR := Lib.hid (BORROW.out bo pos.out)
        clear LESS BORROW
        go_wp2_with fail
        go_quiet (fail)
        go_wp2_with fail
        go_loopw [6] (fun a wr => ∃ k : Nat, a = .int .i64 k ∧ i < k ∧ k < 17 ∧ Hid (∀ j, i < j → j < k → BigM.dg u j = 0) ∧ SubAt w.heap.size (fun j => if j = i then d1 + 65536 else if i < j ∧ j < k then 65535 else BigM.dg u j) y w wr) (fun a _ => 17 - (intOf a).toNat)
        case atStart =>
          have i16 : i < 16 := by
            apply Nat.lt_of_not_le
            intro h
            have : i = 16 := by omega
            subst this
            have := pos.out
            rw [show 16 + 1 = 17 from rfl, Nat.div_eq_of_lt UL.out] at this
            omega
          refine ⟨i + 1, by simp, by omega, by omega, Lib.hid (fun j a b => by omega), ?_⟩
          refine (SS.out.drewN _).set i (d1 + 65536) (fun j hj => ?_)
          by_cases h : j = i
          · rw [if_pos h, if_pos h]
          · rw [if_neg h, if_neg h, if_neg (by omega)]
        case round =>
          obtain ⟨k, rfl, hik, hk17, Z, S2⟩ := hrel
          have b1 := S2.r1.cell hk17
          have g1 := S2.r1.frozen k
          have ki : ¬ k = i := by omega
          have kk : ¬ (i < k ∧ k < k) := by omega
          simp only [ki, kk, if_false] at b1
          have j0 : (0 : Int) ≤ (k : Int) := by omega
          have j1 : (k : Int) < 17 := by omega
          have S3 := Lib.hid S2
          have bi := S2.r1.cell hlt
          simp only [if_true] at bi
          have gi := S2.r1.frozen i
          have by2 := S2.r2.cell hlt
          rw [D2.out] at by2
          clear ki kk S2
          by_cases zero : BigM.dg u k = 0
          · have Z2 : Hid (∀ j, i < j → j < k + 1 → BigM.dg u j = 0) := Lib.hid (fun j a b => by
              by_cases h : j = k
              · rw [h]; exact zero
              · exact Z.out j a (by omega))
            have k16 : k < 16 := by
              apply Nat.lt_of_not_le
              intro h
              have := BigM.none_above UL.out (17 - (i + 1)) (i + 1) (by omega) (fun j a b => Z2.out j (by omega) (by omega))
              have := pos.out
              omega
            rw [zero] at b1
            go_wp2_with fail
            go_roundw
            case rel => exact ⟨k + 1, by simp, by omega, by omega, Z2, S3.out.set k 65535 (fun j hj => by
              by_cases h : j = k
              · subst h; rw [if_pos rfl, if_neg (by omega), if_pos (by omega)]
              · rw [if_neg h]
                by_cases h2 : j = i
                · rw [if_pos h2, if_pos h2]
                · rw [if_neg h2, if_neg h2]
                  by_cases h3 : i < j ∧ j < k
                  · rw [if_pos h3, if_pos (by omega)]
                  · rw [if_neg h3, if_neg (by omega)])⟩
            case measure => first | (simp [intOf]; done) | (simp [intOf]; omega)
          · have kn : i + 1 + (k - (i + 1)) = k := by omega
            have ch := BigM.dg_chain (k - (i + 1)) (i + 1) u (fun j a b => Z.out j (by omega) (by omega)) (by rw [kn]; omega)
            rw [kn] at ch
            have ek := BigM.dg_lt u k
            obtain ⟨dk, hdk⟩ : ∃ q, BigM.dg u k = q := ⟨_, rfl⟩
            rw [hdk] at b1 zero ek
            have CH := Lib.hid ch
            have DK := Lib.hid hdk
            have z1 : ((dk : Int) == 0) = false := by simp; omega
            have v1 : (dk : Int) - 1 = ((dk - 1 : Nat) : Int) := by omega
            have v2 : (d1 : Int) + 65536 - (d2 : Int) = ((d1 + 65536 - d2 : Nat) : Int) := by omega
            have V1 := Lib.hid v1
            have V2 := Lib.hid v2
            have ne1 : ¬ i = k := by omega
            have ne2 : ¬ k = i := by omega
            have dkp : 0 < dk := by omega
            clear ch hdk v1 v2 zero kn
            go_wp2_with fail
            go_region
            go_wp2_with fail
            go_roundw
            case rel => exact ⟨i + 1, by simp, by omega, by
              rw [V1.out, V2.out]
              exact ((S3.out.set k (dk - 1) (g := fun j => if j = i then d1 + 65536 else BigM.dg (u - 65536 ^ (i + 1)) j) (fun j hj => by
                show _ = if j = i then d1 + 65536 else BigM.dg (u - 65536 ^ (i + 1)) j
                rw [CH.out j]
                by_cases h : j = k
                · subst h; rw [if_pos rfl, if_neg (by omega), if_neg (by omega), if_neg (by omega), if_pos rfl, DK.out]
                · rw [if_neg h]
                  by_cases h2 : j = i
                  · rw [if_pos h2, if_pos h2]
                  · rw [if_neg h2, if_neg h2]
                    by_cases h3 : i < j ∧ j < k
                    · rw [if_pos h3, if_neg (by omega), if_pos (by omega)]
                    · rw [if_neg h3]
                      by_cases h4 : j < i + 1
                      · rw [if_pos h4]
                      · rw [if_neg h4, if_neg (by omega), if_neg h])).set i (d1 + 65536 - d2) (fun j hj => by
                rw [BOR.out j]
                by_cases h : j = i
                · rw [if_pos h, if_pos h]
                · rw [if_neg h, if_neg h, if_neg h])).drew⟩
            case measure => first | (simp [intOf]; done) | (simp [intOf]; omega)
      · have LS := Lib.hid (LESS.out (by omega))
        have bo' : decide ((d1 : Int) < (d2 : Int)) = false := by simp; omega
        have bo'' : ¬ (d1 : Int) < (d2 : Int) := by omega
        have bo3 : (d2 : Int) ≤ (d1 : Int) := by omega
        have v2 : (d1 : Int) - (d2 : Int) = ((d1 - d2 : Nat) : Int) := by omega
        have V2 := Lib.hid v2
        clear LESS BORROW LH v2 bo
        go_wp2_with fail
        go_quiet (fail)
        go_wp2_with fail
        go_region
        go_wp2_with fail
        go_roundw
        case rel => exact ⟨i + 1, by simp, by omega, by
          rw [V2.out]
          exact (SS.out.drewN _).set i (d1 - d2) (g := BigM.dg (BigM.left x y (i + 1))) (fun j hj => by
            rw [LS.out j])⟩
        case measure => first | (simp [intOf]; done) | (simp [intOf]; omega)
    · obtain rfl : i = 17 := by omega
      have r1 : Row wr w.heap.size (BigM.dg (x - y)) := by have := S.r1; rw [BigM.left_end HY.out] at this; exact this
      have HB := Lib.hid S.below
      have H1 := Lib.hid r1
      have H3 := Lib.hid S.r3
      clear S r1
      go_wp2_with (first
        | (refine wpList_load_row rfl 47 (.tmp 2) rfl w.heap.size rfl _ _ _ _ H1.out uBig rfl (iBig _) ?_)
        | (refine wpList_store_row rfl 47 (.tmp 4) (.tmp 48) rfl (w.heap.size + 1 + 1) (arr (BigM.dg (x - y))) rfl rfl _ _ H3.out (iBig _) (by rw [arr_size, arr_size]) (arr_one _) ?_))
      exact bodyPost_ret (v := .agg (arr (BigM.dg (x - y)))) (results_cell_row Tryd.results42 _ _ (w.heap.size + 1 + 1) 47 (arr (BigM.dg (x - y))) (0, 0) _ rfl (setRow_heap _ _ _ _ _ _ H3.out) uBig rfl (iBig _)) rfl ⟨rfl, below_setRow HB.out (by omega) _⟩
end Go.Proofs.YtlniojmjakmcjaaDoor
