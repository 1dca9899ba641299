/- The contracts of package viterbi over this program: belongs, Decode, Score, Soften. -/
import Derived.Test.YtgfihljledmaaaaVitDecode
import Derived.Test.YtgfihljledmaaaaVitRecv
import Derived.Test.YtgfihljledmaaaaVpFollow
namespace Go.Proofs.Ytgfihljledmaaaa
open Go.RowKit
set_option linter.unusedVariables false

theorem decA_yes {zs : List Int} {n : Int} (h : dcOk zs n) {D : ByteArray} (h1 : D.size = n.toNat) (h2 : Vit.Top (fz zs) n.toNat (Gal.co D.data.toList)) : DecA zs n (.returned (.tuple #[.string D, .int .i64 (Vit.msum (fz zs) n.toNat (Gal.co D.data.toList)), .int .i64 0])) := by
  unfold DecA
  rw [if_pos h]
  exact ⟨D, h1, h2, rfl⟩
theorem decA_cases {zs : List Int} {n : Int} {e : Ending} (h : DecA zs n e) : (dcOk zs n ∧ ∃ D : ByteArray, D.size = n.toNat ∧ Vit.Top (fz zs) n.toNat (Gal.co D.data.toList) ∧ e = .returned (.tuple #[.string D, .int .i64 (Vit.msum (fz zs) n.toNat (Gal.co D.data.toList)), .int .i64 0])) ∨ (¬ dcOk zs n ∧ e = .returned (.tuple #[.string ⟨#[]⟩, .int .i64 0, .int .i64 2])) := by
  unfold DecA at h
  by_cases q : dcOk zs n
  · rw [if_pos q] at h
    exact .inl ⟨q, h⟩
  · rw [if_neg q] at h
    exact .inr ⟨q, h⟩
set_option maxRecDepth 100000 in
set_option maxHeartbeats 1000000 in
theorem belongs_any (a : Option Addr) (cap : Nat) (zs : List Int) (N : Nat) (hN : zs.length = N) (hl : N ≤ 100000) (n : Int) (w : World) (R : Ints w a zs) :
    Calls Try.prog 23 #[.slice a N cap, .int .i64 n] w fun e w' => e = .returned (.bool (decide (dcOk zs n))) ∧ w = w' := by
  have NO := Lib.hid (fun (h : ¬ dcOk zs n) => decide_eq_false h)
  by_cases g1 : n < 0
  · have d1 : decide (n < 0) = true := by simp; omega
    have V := Lib.hid (NO.out (fun h => by have := h.1; omega))
    clear R hN NO
    go_enter Try.func23, Try.ntmps23
    go_wp2_with fail
    go_ret
    exact ⟨by rw [V.out]; rfl, rfl⟩
  have d1 : decide (n < 0) = false := by simp; omega
  by_cases g2 : 1100 < n
  · have d2 : decide ((1100 : Int) < n) = true := by simp; omega
    have V := Lib.hid (NO.out (fun h => by have := h.2.1; omega))
    clear R hN NO
    go_enter Try.func23, Try.ntmps23
    go_wp2_with fail
    go_ret
    exact ⟨by rw [V.out]; rfl, rfl⟩
  have d2 : decide ((1100 : Int) < n) = false := by simp; omega
  have SY := Lib.hid (fun w => symbols_any n w)
  rw [show symN n = ((16 * n.toNat + 12 : Nat) : Int) by unfold symN; rw [if_neg (by omega)]; omega] at SY
  obtain ⟨M, hM⟩ : ∃ M, 16 * n.toNat + 12 = M := ⟨_, rfl⟩
  rw [hM] at SY
  by_cases g3 : N = M
  · subst g3
    have e1 : ((N : Int) != (N : Int)) = false := by simp
    have SI := Lib.hid (softOk_iff zs)
    have SN := Lib.hid (fun i hi h => softOk_no (zs := zs) (i := i) hi h)
    have RC := Lib.hid (fun h => R.cell h)
    have HN := Lib.hid hN
    have YES := Lib.hid (fun (h : softOk zs = true) => decide_eq_true (show dcOk zs n from ⟨by omega, by omega, by omega, h⟩))
    have NOS := Lib.hid (fun (h : softOk zs = false) => NO.out (fun q => by rw [q.2.2.2] at h; cases h))
    clear R hN NO hM
    go_enter Try.func23, Try.ntmps23
    go_wp2_with fail
    (with_reducible refine (SY.out _).mono ?_)
    rintro e w' ⟨rfl, rfl⟩
    clear SY
    go_wp2_with fail
    go_loop [22] (fun x => ∃ k : Nat, k ≤ N ∧ x = .int .i64 (k : Nat) ∧ ∀ j, j < k → sOk (zs.getD j 0)) (fun x => N - (intOf x).toNat)
    case atStart => exact ⟨0, Nat.zero_le _, rfl, fun j h => absurd h (Nat.not_lt_zero j)⟩
    case round =>
      obtain ⟨k, hk, rfl, hall⟩ := hrel
      have HA := Lib.hid hall
      clear hall
      by_cases hlt : k < N
      · obtain ⟨b, off, rfl, hb, hc⟩ := RC.out (by rw [HN.out]; omega)
        have cl := hc k (by rw [HN.out]; exact hlt)
        obtain ⟨x, hx⟩ : ∃ x, zs.getD k 0 = x := ⟨_, rfl⟩
        have HX := Lib.hid hx
        rw [hx] at cl
        have t1 : decide ((k : Int) < (N : Int)) = true := by simp; omega
        have k9 : (k : Int) < (N : Int) := by omega
        clear hc hx
        by_cases h1 : x < -8
        · have B0 := Lib.hid (NOS.out (SN.out k (by rw [HN.out]; exact hlt) (by rw [HX.out]; unfold sOk; omega)))
          have e3 : decide (x < (-8 : Int)) = true := by simp; omega
          clear SI SN RC
          go_wp2_with fail
          go_ret
          exact ⟨by rw [B0.out]; rfl, rfl⟩
        · have e3 : decide (x < (-8 : Int)) = false := by simp; omega
          by_cases h2 : 7 < x
          · have B0 := Lib.hid (NOS.out (SN.out k (by rw [HN.out]; exact hlt) (by rw [HX.out]; unfold sOk; omega)))
            have e4 : decide ((7 : Int) < x) = true := by simp; omega
            clear SI SN RC
            go_wp2_with fail
            go_ret
            exact ⟨by rw [B0.out]; rfl, rfl⟩
          · have e4 : decide ((7 : Int) < x) = false := by simp; omega
            have HA2 := Lib.hid (show ∀ j, j < k + 1 → sOk (zs.getD j 0) from fun j hj => by
              by_cases e : j = k
              · subst e
                rw [HX.out]
                unfold sOk
                omega
              · exact HA.out j (by omega))
            clear SI SN RC HA
            go_wp2_with fail
            go_round
            case rel => exact ⟨k + 1, by omega, by go_num, HA2.out⟩
            case measure => simp [intOf]; omega
      · have t1 : decide ((k : Int) < (N : Int)) = false := by simp; omega
        have B0 := Lib.hid (YES.out (SI.out.2 (fun i hi => HA.out i (by rw [HN.out] at hi; omega))))
        clear SI SN RC HA
        go_wp2_with fail
        go_ret
        exact ⟨by rw [B0.out]; rfl, rfl⟩
  · have V := Lib.hid (NO.out (fun h => by have := h.2.2.1; omega))
    have e1 : ((N : Int) != (M : Int)) = true := by simp; omega
    have e2 : ((N : Int) == (M : Int)) = false := by simp; omega
    clear R hN NO hM
    go_enter Try.func23, Try.ntmps23
    go_wp2_with fail
    (with_reducible refine (SY.out _).mono ?_)
    rintro e w' ⟨rfl, rfl⟩
    go_wp2_with fail
    go_ret
    exact ⟨by rw [V.out]; rfl, rfl⟩
set_option maxRecDepth 100000 in
set_option maxHeartbeats 1000000 in
theorem decode_any (a : Option Addr) (cap : Nat) (zs : List Int) (N : Nat) (hN : zs.length = N) (hN1 : N ≤ 100000) (n : Int) (w : World) (R : Ints w a zs) (hcap : N ≤ cap) :
    Calls Try.prog 11 #[.slice a N cap, .int .i64 n] w fun e w' => DecA zs n e ∧ Below w.heap.size w w' := by
  have BE := Lib.hid (fun w' (h : Below w.heap.size w w') => belongs_any a cap zs N hN hN1 n w' (R.below h))
  by_cases h : dcOk zs n
  · rw [decide_eq_true h] at BE
    have hk := h
    obtain ⟨h1, h2, h3, h4⟩ := h
    obtain ⟨m, rfl⟩ : ∃ m : Nat, n = (m : Int) := ⟨n.toNat, by omega⟩
    rw [Int.toNat_natCast] at h3
    obtain ⟨sb, so, rfl, hsb, hc⟩ := R.cell (by omega)
    have F := (softOk_iff zs).1 h4
    have SE := Lib.hid (fun w' (q : Below w.heap.size w w') => search_any sb so N cap m (fz zs) (by omega) (by omega) hcap w' (Nat.lt_of_lt_of_le hsb q.size) (fun c hc' => (q.cell (p := ⟨sb, so + c, none⟩) hsb).trans (hc c (by omega))) (fun c hc' => F c (by omega)))
    obtain ⟨tp, ms⟩ := Vit.follow_top (fz zs) m
    obtain ⟨G, hG⟩ : ∃ G, Vit.fbit (fz zs) (8 * m) (8 * m + 6) = G := ⟨_, rfl⟩
    have FO := Lib.hid (fun E w' (lE : E < w'.heap.size) (hE : Cel w' E (8 * m * 64) (rowF (fz zs) (8 * m) (8 * m + 6) 0)) => follow_any E m G (Vit.fst (fz zs) (8 * m) (8 * m + 6)) (by omega) (by rw [← hG]; exact Vit.fbit_lt _ _ _) (Vit.fst_lt _ _ _) rfl (fun i => by rw [← hG]; rfl) w' lE (fun i hi => by
      have st := Vit.fst_lt (fz zs) (8 * m) (8 * m + 6) i
      rw [hE.cell (j := i * 64 + Vit.fst (fz zs) (8 * m) (8 * m + 6) i) (by omega)]
      unfold rowF
      rw [if_pos (Nat.zero_le _), show (i * 64 + Vit.fst (fz zs) (8 * m) (8 * m + 6) i) / 64 = i by omega, show (i * 64 + Vit.fst (fz zs) (8 * m) (8 * m + 6) i) % 64 = Vit.fst (fz zs) (8 * m) (8 * m + 6) i by omega, ← hG]
      rfl))
    rw [hG] at tp ms
    obtain ⟨D, hD⟩ : ∃ D, (⟨(Gal.coefs (Vit.byt G) m).toArray⟩ : ByteArray) = D := ⟨_, rfl⟩
    rw [hD] at FO
    have sD : D.size = m := by rw [← hD]; exact coefs_size _ _
    have co : ∀ p, p < m → Gal.co D.data.toList p = Vit.byt G p := fun p hp => by
      rw [← hD]
      show Gal.co (Gal.coefs _ _) p = _
      rw [Gal.co_coefs, if_pos hp]
    have mm : ∀ i, i < 8 * m + 6 → Cv.mb (Gal.co D.data.toList) m i = Cv.mb (Vit.byt G) m i := fun i hi => by
      unfold Cv.mb
      by_cases g : i < 8 * m
      · rw [if_pos g, if_pos g, co _ (by omega)]
      · rw [if_neg g, if_neg g]
    have me : Vit.msum (fz zs) m (Gal.co D.data.toList) = Vit.msum (fz zs) m (Vit.byt G) := Vit.tot_congr _ mm
    have ne : ∀ k, k ≤ m → Vit.num (Gal.co D.data.toList) k = Vit.num (Vit.byt G) k := by
      intro k
      induction k with
      | zero => intro _; rfl
      | succ k ih =>
        intro hk'
        show 256 * Vit.num _ k + _ = 256 * Vit.num _ k + _
        rw [ih (by omega), co k (by omega)]
    have tD : Vit.Top (fz zs) m (Gal.co D.data.toList) := fun c => by
      have := tp c
      rw [me, ne m (Nat.le_refl _)]
      exact this
    have Q := Lib.hid (decA_yes hk (D := D) (by rw [sD]; rfl) tD)
    rw [show (m : Int).toNat = m from rfl, me, ms] at Q
    obtain ⟨y, hy⟩ : ∃ y, Vit.bsum (fz zs) (8 * m) (8 * m + 6) 0 0 = y := ⟨_, rfl⟩
    rw [hy] at Q SE
    have B0 := Lib.hid (Below.refl w.heap.size w)
    clear hk h1 h2 h3 h4 R hc F tp ms hG hD sD co mm me ne tD hy hN
    go_enter Try.func11, Try.ntmps11
    go_wp2_with fail
    (with_reducible refine (BE.out _ B0.out).mono ?_)
    rintro e w1 ⟨rfl, rfl⟩
    go_wp2_with fail
    (with_reducible refine (SE.out _ B0.out).mono ?_)
    rintro e w2 ⟨E, rfl, hE, h2⟩
    have H2 := Lib.hid h2
    have F2 := Lib.hid (FO.out E w2 hE.lt hE)
    clear hE h2 FO SE BE
    go_wp2_with fail
    (with_reducible refine F2.out.mono ?_)
    rintro e w3 ⟨rfl, h3⟩
    have H3 := Lib.hid (bt H2.out h3)
    clear h3 F2
    go_wp2_with fail
    go_ret3
    exact ⟨Q.out, H3.out⟩
  · rw [decide_eq_false h] at BE
    have Q := Lib.hid (decA_no h)
    have B0 := Lib.hid (Below.refl w.heap.size w)
    clear h R hN
    go_enter Try.func11, Try.ntmps11
    go_wp2_with fail
    (with_reducible refine (BE.out _ B0.out).mono ?_)
    rintro e w1 ⟨rfl, rfl⟩
    go_wp2_with fail
    go_ret3
    exact ⟨Q.out, B0.out⟩
theorem scV_tup (zs : List Int) (d : ByteArray) : ∃ x y : Int, scV zs d = .tuple #[.int .i64 x, .int .i64 y] := by
  unfold scV
  by_cases h : scOk zs d.size
  · rw [if_pos h]; exact ⟨_, _, rfl⟩
  · rw [if_neg h]; exact ⟨_, _, rfl⟩
set_option maxRecDepth 100000 in
set_option maxHeartbeats 1000000 in
theorem score_any (a : Option Addr) (cap : Nat) (zs : List Int) (n : Nat) (hn : zs.length = n) (hl : n ≤ 100000) (d : ByteArray) (w : World) (R : Ints w a zs) :
    Calls Try.prog 14 #[.slice a n cap, .string d] w fun e w' => e = .returned (scV zs d) ∧ Below w.heap.size w w' := by
  obtain ⟨m, hm⟩ : ∃ m, d.size = m := ⟨_, rfl⟩
  have BE := Lib.hid (belongs_any a cap zs n hn hl (m : Int) w R)
  by_cases h : dcOk zs (m : Int)
  · rw [decide_eq_true h] at BE
    obtain ⟨h0, h1, h2, h3⟩ := h
    rw [Int.toNat_natCast] at h2
    have E := Lib.hid (fun w => encode_any d m hm (by omega) w)
    have sX : (encS d m).size = 16 * m + 12 := coefs_size _ _
    obtain ⟨X, hX⟩ : ∃ x, encS d m = x := ⟨_, rfl⟩
    have BX := Lib.hid (fun i (h : i < X.size) => show X[i].toNat = Cv.sym (Cv.mb (Gal.co d.data.toList) m) i by
      subst hX
      rw [byte_co _ _ h]
      unfold encS
      show (Gal.co (Gal.coefs _ _) i).toNat = _
      rw [Gal.co_coefs, if_pos (by rw [sX] at h; exact h), symB_nat])
    rw [hX] at E sX
    rw [← h2, hn] at sX
    have V := Lib.hid (show scV zs d = .tuple #[.int .i64 (Vit.msum (fz zs) m (Gal.co d.data.toList)), .int .i64 0] by
      unfold scV
      rw [hm, if_pos ⟨by omega, by omega, h3⟩])
    have F := Lib.hid ((softOk_iff zs).1 h3)
    have MS := Lib.hid (show Vit.msum (fz zs) m (Gal.co d.data.toList) = Vit.sg (fun i => (Cv.sym (Cv.mb (Gal.co d.data.toList) m) i : Nat) * fz zs i) (2 * (8 * m + 6)) from Vit.tot_sg _ _ _)
    obtain ⟨g, hg⟩ : ∃ g, Cv.sym (Cv.mb (Gal.co d.data.toList) m) = g := ⟨_, rfl⟩
    have HG := Lib.hid (show ∀ i, g i < 2 by rw [← hg]; exact Cv.sym_lt _)
    rw [hg] at BX MS
    have HX := Lib.hid sX
    obtain ⟨b, off, rfl, hb, hc⟩ := R.cell (by omega)
    have HC := Lib.hid hc
    have HN := Lib.hid hn
    have HM := Lib.hid (show 2 * (8 * m + 6) = n by omega)
    have n2 : n ≤ 17612 := by omega
    have B0 := Lib.hid (Below.refl w.heap.size w)
    have DS := Lib.hid hm
    clear hX hg hn R hc h0 h1 h2 h3
    go_enter Try.func14, Try.ntmps14
    go_wp2_with fail
    (with_reducible refine BE.out.mono ?_)
    rintro e w1 ⟨rfl, rfl⟩
    go_wp2_with fail
    (with_reducible refine (E.out _).mono ?_)
    rintro e w1 ⟨rfl, hb1⟩
    have B1 := Lib.hid hb1
    clear hb1 E BE
    go_wp2_with fail
    go_loopw [8, 23] (fun y x wr => ∃ k : Nat, k ≤ n ∧ x = .int .i64 (k : Nat) ∧ y = .int .i64 (Vit.sg (fun i => (g i : Nat) * fz zs i) k) ∧ Below w.heap.size w wr) (fun _ x _ => n - (intOf x).toNat)
    case atStart => exact ⟨0, Nat.zero_le _, rfl, rfl, B1.out⟩
    case round =>
      obtain ⟨k, hk, rfl, rfl, hB⟩ := hrel
      have HB := Lib.hid hB
      have bd := sg_bound (f := fz zs) HG.out k (fun i hi => F.out i (by rw [HN.out]; omega))
      by_cases hlt : k < n
      · have t1 : decide ((k : Int) < (n : Int)) = true := by simp; omega
        have cl := (hB.cell (p := ⟨b, off + k, none⟩) hb).trans (HC.out k (by rw [HN.out]; exact hlt))
        have is : k < X.size := by rw [HX.out]; exact hlt
        have bx := BX.out k is
        have g2 := HG.out k
        have fo := F.out k (by rw [HN.out]; exact hlt)
        have SE := Lib.hid (show Vit.sg (fun i => (g i : Nat) * fz zs i) (k + 1) = Vit.sg (fun i => (g i : Nat) * fz zs i) k + fz zs k * (g k : Nat) from by
          rw [Int.mul_comm (fz zs k)]
          rfl)
        have fz' : fz zs k = zs.getD k 0 := rfl
        rw [fz'] at SE
        obtain ⟨y, hy⟩ : ∃ y, Vit.sg (fun i => (g i : Nat) * fz zs i) k = y := ⟨_, rfl⟩
        obtain ⟨x, hx⟩ : ∃ x, g k = x := ⟨_, rfl⟩
        obtain ⟨z, hz⟩ : ∃ z, zs.getD k 0 = z := ⟨_, rfl⟩
        rw [hy] at SE bd ⊢
        rw [hx] at bx g2 SE
        rw [hz] at cl fo SE
        obtain ⟨p, hp⟩ : ∃ p, z * (x : Int) = p := ⟨_, rfl⟩
        rw [hp] at SE
        unfold sOk at fo
        have pb : -8 ≤ p ∧ p ≤ 8 := by
          match x, g2 with
          | 0, _ => simp at hp; omega
          | 1, _ => simp at hp; omega
        have y1 : -200000 ≤ y := by omega
        have y2 : y ≤ 200000 := by omega
        have k9 : (k : Int) < (n : Int) := by omega
        clear hy hx hz fz' hB bd BX HG F HC MS
        go_wp2_with fail
        go_roundw
        case rel => exact ⟨k + 1, by omega, by go_num, by rw [SE.out], HB.out⟩
        case measure => simp [intOf]; omega
      · have t1 : decide ((k : Int) < (n : Int)) = false := by simp; omega
        have HV := Lib.hid (show Vit.sg (fun i => (g i : Nat) * fz zs i) k = Vit.msum (fz zs) m (Gal.co d.data.toList) by rw [MS.out, HM.out, show k = n by omega])
        rw [HV.out] at bd ⊢
        clear hB BX HG F HC MS
        go_wp2_with fail
        go_ret2
        exact ⟨by rw [V.out]; rfl, HB.out⟩
  · rw [decide_eq_false h] at BE
    have V := Lib.hid (show scV zs d = .tuple #[.int .i64 0, .int .i64 2] from if_neg (fun q => h (by rw [hm] at q; exact ⟨by omega, by have := q.1; omega, by rw [Int.toNat_natCast]; exact q.2.1, q.2.2⟩)))
    have B0 := Lib.hid (Below.refl w.heap.size w)
    clear h R hn
    go_enter Try.func14, Try.ntmps14
    go_wp2_with fail
    (with_reducible refine BE.out.mono ?_)
    rintro e w1 ⟨rfl, rfl⟩
    go_wp2_with fail
    go_ret2
    exact ⟨by rw [V.out]; rfl, B0.out⟩
end Go.Proofs.Ytgfihljledmaaaa
