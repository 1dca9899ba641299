/- The contracts of galois' doubled, filled, log, power, product, inverse, times over this program. -/
import Derived.Test.YtlpjhmafplljaaaGreatDoorGalRow
namespace Go.Proofs.YtlpjhmafplljaaaGreatDoor
open Go.RowKit
set_option linter.unusedVariables false

theorem doubled_any (r : BitVec 8) (w : World) :
    Calls Tryz.prog 79 #[.int .u8 (r.toNat : Nat)] w fun e w' => e = .returned (.int .u8 ((Gal.dbl r).toNat : Nat)) ∧ w = w' := by
  have hr : r.toNat < 256 := r.isLt
  have e1 : IntKind.u8.wrap ((r.toNat : Int) * 2) = ((r <<< 1).toNat : Int) := shl8 r 1
  have e2 := xor8 (r <<< 1) 0x1d#8
  rw [show ((0x1d#8).toNat : Int) = 29 from rfl] at e2
  have hb : r.getLsbD 7 = decide (r.toNat / 128 = 1) := by
    show r.toNat.testBit 7 = _
    rw [Nat.testBit_eq_decide_div_mod_eq]
    by_cases g : r.toNat / 128 = 1
    · rw [decide_eq_true (show r.toNat / 2 ^ 7 % 2 = 1 by omega), decide_eq_true g]
    · rw [decide_eq_false (show ¬ r.toNat / 2 ^ 7 % 2 = 1 by omega), decide_eq_false g]
  by_cases g : r.toNat / 128 = 1
  · have e : Gal.dbl r = (r <<< 1) ^^^ 0x1d#8 := by unfold Gal.dbl; rw [hb, decide_eq_true g]; rfl
    have h1 : ((r.toNat : Int) / 128 != 0) = true := by simp; omega
    rw [e]
    obtain ⟨p, hp⟩ : ∃ p, (r <<< 1) ^^^ 0x1d#8 = p := ⟨_, rfl⟩
    rw [hp] at e2 ⊢
    obtain ⟨q, hq⟩ : ∃ p, r <<< 1 = p := ⟨_, rfl⟩
    rw [hq] at e1 e2
    clear e g hp hq hb
    go_enter Tryz.func79, Tryz.ntmps79
    go_wp2_with fail
    go_ret
    exact ⟨rfl, rfl⟩
  · have e : Gal.dbl r = r <<< 1 := by unfold Gal.dbl; rw [hb, decide_eq_false g]; rfl
    have h1 : ((r.toNat : Int) / 128 != 0) = false := by simp; omega
    rw [e]
    obtain ⟨q, hq⟩ : ∃ p, r <<< 1 = p := ⟨_, rfl⟩
    rw [hq] at e1 ⊢
    clear e g e2 hq hb
    go_enter Tryz.func79, Tryz.ntmps79
    go_wp2_with fail
    go_ret
    exact ⟨rfl, rfl⟩
theorem zeroTab (w : World) : Sem.run Tryz.prog (zeroValue 86) w = .ok (.agg (arrK .u8 511 (fun _ => 0))) w := by rw [arrK_zero]; kernel_rfl
theorem iTab (f : Nat → Nat) : (Tryz.prog.info? 86).map (·.size) = some (arrK .u8 511 f).size := by rw [arrK_size]; kernel_rfl
/-- The block b holds the tables. -/
abbrev Tabs := RowK .u8 511 86
def tabs : Array Value := arrK .u8 511 Gal.tab
set_option maxRecDepth 100000 in
theorem filled_any (w : World) :
    Calls Tryz.prog 58 #[] w fun e w' => e = .returned (.agg tabs) ∧ Below w.heap.size w w' := by
  have Z := Lib.hid (fun w => zeroTab w)
  have DB := Lib.hid (fun r w => doubled_any r w)
  have HU := Lib.hid Tryz.underlying86
  go_enter Tryz.func58, Tryz.ntmps58
  go_wp2_with (simp only [Z.out])
  go_loopw [2, 4] (fun a i wr => ∃ k : Nat, k ≤ 255 ∧ i = .int .i64 k ∧ a = .int .u8 ((Gal.pw k).toNat : Nat) ∧ Below w.heap.size w wr ∧ Tabs wr w.heap.size (fun _ => 0) ∧ Tabs wr (w.heap.size + 1) (Gal.tabk k)) (fun _ i _ => 255 - (intOf i).toNat)
  case atStart =>
    refine ⟨0, by omega, rfl, rfl, by go_grown, (RowK.new w .u8 511 86 (fun _ => 0)).alloc _, ?_⟩
    have := RowK.new (w.alloc (.cells (arrK .u8 511 (fun _ => 0)) 86)) .u8 511 86 (fun _ => 0)
    rw [World.size_alloc] at this
    exact this.congr (fun i _ => (Gal.tabk_zero i).symm)
  case round =>
    obtain ⟨k, hk, rfl, rfl, hB, R0, R1⟩ := hrel
    by_cases hlt : k < 255
    · have C := Lib.hid (DB.out (Gal.pw k))
      rw [show Gal.dbl (Gal.pw k) = Gal.pw (k + 1) from rfl] at C
      have S := fun i hi => Gal.tabk_succ k i hlt hi
      obtain ⟨X, hX⟩ : ∃ X, (Gal.pw k).toNat = X := ⟨_, rfl⟩
      obtain ⟨Y, hY⟩ : ∃ X, (Gal.pw (k + 1)).toNat = X := ⟨_, rfl⟩
      have hx : X < 256 := by rw [← hX]; exact (Gal.pw k).isLt
      rw [hX, hY] at C
      rw [hX] at S ⊢
      have HY := Lib.hid hY
      have R2 := R1.set k X
      have c1 := R1.cell (i := k) (by omega)
      have f1 := R1.frozen k
      have c2 := R2.cell (i := 255 + X) (by omega)
      have f2 := R2.frozen (255 + X)
      have k1 : IntKind.u8.wrap (k : Int) = (k : Int) := by rw [IntKind.wrap_u8]; omega
      have NR := Lib.hid (show Tabs ((wr.setCell ⟨w.heap.size + 1, k, none⟩ (.int .u8 X)).setCell ⟨w.heap.size + 1, 255 + X, none⟩ (.int .u8 k)) (w.heap.size + 1) (Gal.tabk (k + 1)) from
        (R2.set (255 + X) k).congr (fun i hi => (S i hi).symm))
      have N0 := Lib.hid (show Tabs ((wr.setCell ⟨w.heap.size + 1, k, none⟩ (.int .u8 X)).setCell ⟨w.heap.size + 1, 255 + X, none⟩ (.int .u8 k)) w.heap.size (fun _ => 0) from
        (R0.setOther (by omega) _).setOther (by omega) _)
      have NB := Lib.hid (show Below w.heap.size w ((wr.setCell ⟨w.heap.size + 1, k, none⟩ (.int .u8 X)).setCell ⟨w.heap.size + 1, 255 + X, none⟩ (.int .u8 k)) from
        (hB.setCell (p := ⟨w.heap.size + 1, k, none⟩) (by show w.heap.size ≤ w.heap.size + 1; omega) _).setCell (p := ⟨w.heap.size + 1, 255 + X, none⟩) (by show w.heap.size ≤ w.heap.size + 1; omega) _)
      clear S hX hY R2 R1 R0 hB DB Z
      go_wp2_with fail
      (with_reducible refine (C.out _).mono ?_)
      rintro e w' ⟨rfl, rfl⟩
      go_wp2_with fail
      go_roundw
      case rel => exact ⟨k + 1, by omega, by go_num, by rw [HY.out], NB.out, N0.out, NR.out⟩
      case measure => simp [intOf]; omega
    · obtain rfl : k = 255 := by omega
      have HB := Lib.hid hB
      have HR0 := Lib.hid R0
      have HR1 := Lib.hid (show Tabs wr (w.heap.size + 1) Gal.tab from R1.congr (fun x hx => Gal.tabk_all x))
      clear hB R0 R1 Z DB
      go_upto_region 10 with fail
      refine wp_region_lit ?_
      refine wpList_load_row rfl 86 (.tmp 1) rfl (w.heap.size + 1) rfl _ _ _ _ HR1.out HU.out rfl (iTab _) ?_
      simp only [Act.put, List.setIfInBounds_toArray, List.set_cons_succ, List.set_cons_zero]
      refine wpList_store_row rfl 86 (.tmp 0) (.tmp 19) rfl w.heap.size (arrK .u8 511 Gal.tab) rfl rfl _ _ HR0.out (iTab _) (by rw [arrK_size, arrK_size]) (arrK_one _ _ _) ?_
      refine wpList_nil ?_
      simp only [Exit.then]
      rename (∀ (a : Act) (w : World), Code.wp _ Code.ret _ a w → _) => hK
      apply hK
      apply wp_ret
      exact bodyPost_ret (v := .agg (arrK .u8 511 Gal.tab)) (results_cell_row Tryz.results58 _ _ w.heap.size 86 (arrK .u8 511 Gal.tab) (0, 0) _ rfl (setRow_heap _ _ _ _ _ _ HR0.out) HU.out rfl (iTab _)) rfl ⟨rfl, below_setRow HB.out (by omega) _⟩
theorem log_any (b : Nat) (r : BitVec 8) (w : World) (T : Tabs w b Gal.tab) :
    Calls Tryz.prog 81 #[.pointer (some ⟨b, 0, none⟩), .int .u8 (r.toNat : Nat)] w fun e w' => e = .returned (.int .i64 (Gal.lg r : Nat)) ∧ w = w' := by
  have hr : r.toNat < 256 := r.isLt
  have c := T.cell (i := 255 + r.toNat) (by omega)
  rw [Gal.tab_log] at c
  have hl := Gal.lg_lt r
  obtain ⟨X, hX⟩ : ∃ X, r.toNat = X := ⟨_, rfl⟩
  obtain ⟨L, hL⟩ : ∃ X, Gal.lg r = X := ⟨_, rfl⟩
  rw [hX, hL] at c
  rw [hX] at hr ⊢
  rw [hL] at hl ⊢
  clear hX hL T
  go_enter Tryz.func81, Tryz.ntmps81
  go_wp2_with fail
  go_ret
  exact ⟨rfl, rfl⟩
theorem power_any (b : Nat) (k : Int) (h0 : -4611686018427387904 ≤ k) (h1 : k ≤ 4611686018427387904) (w : World) (T : Tabs w b Gal.tab) :
    Calls Tryz.prog 80 #[.pointer (some ⟨b, 0, none⟩), .int .i64 k] w fun e w' => e = .returned (.int .u8 ((Gal.pwi k).toNat : Nat)) ∧ w = w' := by
  obtain ⟨j, hj⟩ : ∃ j : Nat, (k % 255).toNat = j := ⟨_, rfl⟩
  have j2 : j < 255 := by omega
  have ej : Gal.pwi k = Gal.pw j := by unfold Gal.pwi; rw [hj]
  have c := T.cell (i := j) (by omega)
  rw [Gal.tab_pow j j2] at c
  rw [ej]
  obtain ⟨r, hr⟩ : ∃ r, k.tmod 255 = r := ⟨_, rfl⟩
  have ht : k = 255 * (k.tdiv 255) + k.tmod 255 := (Int.mul_tdiv_add_tmod k 255).symm
  have r1 : -255 < r := by rw [← hr]; have := Int.lt_tmod_of_pos k (show (0 : Int) < 255 by omega); omega
  have r2 : r < 255 := by rw [← hr]; exact Int.tmod_lt_of_pos k (by omega)
  have r3 : (r + 255) % 255 = (j : Int) := by rw [hr] at ht; omega
  have r4 : (r + 255).tmod 255 = (j : Int) := by rw [Int.tmod_eq_emod_of_nonneg (by omega)]; exact r3
  have r5 : IntKind.i64.wrap (r + 255) = r + 255 := by rw [IntKind.wrap_i64]; omega
  obtain ⟨X, hX⟩ : ∃ X, (Gal.pw j).toNat = X := ⟨_, rfl⟩
  rw [hX] at c ⊢
  clear ej hX T hj ht
  go_enter Tryz.func80, Tryz.ntmps80
  go_wp2_with fail
  go_ret
  exact ⟨rfl, rfl⟩
/-- A world that differs in what was drawn alone. -/
def Drawn (w w' : World) : Prop := ∃ n, w' = w.drewN n
theorem log_quiet (b : Nat) (r : BitVec 8) (w : World) (T : Tabs w b Gal.tab) (n : Nat) :
    Calls Tryz.prog 81 #[.pointer (some ⟨b, 0, none⟩), .int .u8 (r.toNat : Nat)] (w.drewN n) fun e w' => e = .returned (.int .i64 (Gal.lg r : Nat)) ∧ ∃ m, w' = w.drewN m :=
  (log_any b r (w.drewN n) (T.drewN n)).mono fun e w' h => ⟨h.1, n, h.2.symm⟩
set_option maxHeartbeats 1000000 in
theorem product_any (b : Nat) (x y : BitVec 8) (w : World) (T : Tabs w b Gal.tab) :
    Calls Tryz.prog 60 #[.pointer (some ⟨b, 0, none⟩), .int .u8 (x.toNat : Nat), .int .u8 (y.toNat : Nat)] w fun e w' => e = .returned (.int .u8 ((Gal.mul x y).toNat : Nat)) ∧ Drawn w w' := by
  have D0 : Drawn w w := ⟨0, rfl⟩
  by_cases hx : x = 0#8
  · subst hx
    rw [Gal.zero_mul, show ((0#8).toNat : Int) = 0 from rfl]
    have HD := Lib.hid D0
    clear D0
    go_enter Tryz.func60, Tryz.ntmps60
    go_wp2_with fail
    go_ret
    exact ⟨rfl, HD.out⟩
  have x0 : ((x.toNat : Int) == 0) = false := by
    rw [beq_eq_false_iff_ne]
    intro h
    exact hx (BitVec.eq_of_toNat_eq (by simpa using h))
  by_cases hy : y = 0#8
  · subst hy
    rw [Gal.mul_zero, show ((0#8).toNat : Int) = 0 from rfl]
    have HD := Lib.hid D0
    obtain ⟨X, hX⟩ : ∃ X, x.toNat = X := ⟨_, rfl⟩
    rw [hX] at x0 ⊢
    clear D0 hX hx
    go_enter Tryz.func60, Tryz.ntmps60
    go_wp2_with fail
    go_ret
    exact ⟨rfl, HD.out⟩
  have y0 : ((y.toNat : Int) == 0) = false := by
    rw [beq_eq_false_iff_ne]
    intro h
    exact hy (BitVec.eq_of_toNat_eq (by simpa using h))
  have LX := Lib.hid (log_quiet b x w T)
  have LY := Lib.hid (log_quiet b y w T)
  rw [Gal.mul_eq hx hy]
  have l1 := Gal.lg_lt x
  have l2 := Gal.lg_lt y
  obtain ⟨m, hm⟩ : ∃ m, (Gal.lg x + Gal.lg y) % 255 = m := ⟨_, rfl⟩
  have m1 : m < 255 := by omega
  have c := T.cell (i := m) (by omega)
  rw [Gal.tab_pow m m1] at c
  rw [hm]
  obtain ⟨lx, hlx⟩ : ∃ m, Gal.lg x = m := ⟨_, rfl⟩
  obtain ⟨ly, hly⟩ : ∃ m, Gal.lg y = m := ⟨_, rfl⟩
  rw [hlx] at LX hm l1
  rw [hly] at LY hm l2
  obtain ⟨X, hX⟩ : ∃ X, x.toNat = X := ⟨_, rfl⟩
  obtain ⟨Y, hY⟩ : ∃ X, y.toNat = X := ⟨_, rfl⟩
  obtain ⟨Q, hQ⟩ : ∃ X, (Gal.pw m).toNat = X := ⟨_, rfl⟩
  rw [hX] at x0 LX ⊢
  rw [hY] at y0 LY ⊢
  rw [hQ] at c ⊢
  have e1 : IntKind.i64.wrap ((lx : Int) + (ly : Int)) = (lx : Int) + (ly : Int) := by rw [IntKind.wrap_i64]; omega
  have e2 : ((lx : Int) + (ly : Int)).tmod 255 = (m : Int) := by rw [Int.tmod_eq_emod_of_nonneg (by omega)]; omega
  have e3 : ((lx : Int) + (ly : Int)) % 255 = (m : Int) := by omega
  clear hx hy hX hY hQ hlx hly D0 T hm
  go_enter Tryz.func60, Tryz.ntmps60
  go_wp2_with fail
  go_quiet ((go_at_call 81; (first | (with_reducible exact LX.out _) | (with_reducible exact LY.out _))))
  go_wp2_with fail
  go_ret
  exact ⟨rfl, ⟨_, rfl⟩⟩
theorem inverse_any (b : Nat) (x : BitVec 8) (w : World) (T : Tabs w b Gal.tab) :
    Calls Tryz.prog 59 #[.pointer (some ⟨b, 0, none⟩), .int .u8 (x.toNat : Nat)] w fun e w' => e = .returned (.int .u8 ((Gal.inv x).toNat : Nat)) ∧ w = w' := by
  have l1 := Gal.lg_lt x
  have LX := Lib.hid (log_any b x w T)
  have PW := Lib.hid (power_any b (-(Gal.lg x : Int)) (by omega) (by omega) w T)
  rw [Gal.pwi_neg] at PW
  obtain ⟨lx, hlx⟩ : ∃ m, Gal.lg x = m := ⟨_, rfl⟩
  rw [hlx] at LX PW l1
  obtain ⟨X, hX⟩ : ∃ X, x.toNat = X := ⟨_, rfl⟩
  rw [hX] at LX ⊢
  obtain ⟨V, hV⟩ : ∃ X, (Gal.inv x).toNat = X := ⟨_, rfl⟩
  rw [hV] at PW ⊢
  clear hlx hX hV T
  go_enter Tryz.func59, Tryz.ntmps59
  go_wp2_with fail
  (with_reducible refine LX.out.mono ?_)
  rintro e w' ⟨rfl, rfl⟩
  go_wp2_with fail
  (with_reducible refine PW.out.mono ?_)
  rintro e w' ⟨rfl, rfl⟩
  go_wp2_with fail
  go_ret
  exact ⟨rfl, rfl⟩
theorem times_any (b : Nat) (x y : BitVec 8) (w : World) (T : Tabs w b Gal.tab) :
    Calls Tryz.prog 62 #[.agg #[.pointer (some ⟨b, 0, none⟩), .int .u8 (x.toNat : Nat)], .int .u8 (y.toNat : Nat)] w fun e w' => e = .returned (.int .u8 ((Gal.mul x y).toNat : Nat)) ∧ Below w.heap.size w w' := by
  have PR := Lib.hid (fun w T => product_any b x y w T)
  have TA := Lib.hid (T.alloc (.cells #[.pointer (some ⟨b, 0, none⟩), .int .u8 (x.toNat : Nat)] 92))
  have HB := Lib.hid (ba (Below.refl w.heap.size w) (.cells #[.pointer (some ⟨b, 0, none⟩), .int .u8 (x.toNat : Nat)] 92))
  obtain ⟨X, hX⟩ : ∃ X, x.toNat = X := ⟨_, rfl⟩
  obtain ⟨Y, hY⟩ : ∃ X, y.toNat = X := ⟨_, rfl⟩
  obtain ⟨V, hV⟩ : ∃ X, (Gal.mul x y).toNat = X := ⟨_, rfl⟩
  rw [hX, hY, hV] at PR
  rw [hX] at TA HB
  rw [hX, hY, hV]
  clear hX hY hV T
  go_enter Tryz.func62, Tryz.ntmps62
  go_wp2_with fail
  (with_reducible refine (PR.out _ TA.out).mono ?_)
  rintro e w' ⟨rfl, n, rfl⟩
  go_wp2_with fail
  go_ret
  exact ⟨rfl, below_drewN HB.out n⟩
end Go.Proofs.YtlpjhmafplljaaaGreatDoor
