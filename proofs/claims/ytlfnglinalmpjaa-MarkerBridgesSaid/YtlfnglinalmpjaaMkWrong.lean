/- Layer 8: the reference's finder: the wrong bits of a place. -/
import Derived.Test.YtlfnglinalmpjaaMkAtt
import Derived.Test.YtlfnglinalmpjaaMkFind
namespace Go.Proofs.Ytlfnglinalmpjaa
open Go.RowKit
set_option linter.unusedVariables false

theorem mkS_at (i : Nat) (h : i < 32) : (Gal.co mkS.data.toList i).toNat = Mk.mbit i := by
  unfold mkS
  show (Gal.co (Gal.coefs _ _) i).toNat = _
  rw [Gal.co_coefs, if_pos h, mkv_nat]
  rfl
set_option maxRecDepth 100000 in
set_option maxHeartbeats 2000000 in
theorem rwrong_any (b p n cap : Nat) (ao : Option Addr) (zs : List Int) (hn : zs.length = n) (hp : p + 32 ≤ n) (hl : n ≤ 1000000000) (w : World) (hb : b < w.heap.size) (h1 : w.cell? ⟨b, 1, none⟩ = some (.slice ao n cap)) (h3 : w.cell? ⟨b, 3, none⟩ = some (.int .i64 (p : Nat))) (R : Ints w ao zs) :
    Calls Try.prog 48 #[.pointer (some ⟨b, 0, none⟩)] w fun e w' => e = .returned (.int .i64 (Mk.wrongAt (fz zs) p 32 : Nat)) ∧ Below w.heap.size w w' := by
  obtain ⟨sb, so, rfl, hsb, hc⟩ := R.cell (by omega)
  have MK := Lib.hid (fun w => rmarker_any w)
  have C1 := Lib.hid (fun w' (q : Below w.heap.size w w') => (q.cell (p := ⟨b, 1, none⟩) hb).trans h1)
  have C3 := Lib.hid (fun w' (q : Below w.heap.size w w') => (q.cell (p := ⟨b, 3, none⟩) hb).trans h3)
  have CZ := Lib.hid (fun j (hj : j < n) w' (q : Below w.heap.size w w') => (q.cell (p := ⟨sb, so + j, none⟩) hsb).trans (hc j (by rw [hn]; exact hj)))
  have sM : mkS.size = 32 := coefs_size _ _
  have BY := Lib.hid (show ∀ i (h : i < mkS.size), (mkS[i]'h).toNat = Mk.mbit i from fun i h => by rw [byte_co _ _ h, mkS_at i (by rw [sM] at h; exact h)])
  obtain ⟨M, hM⟩ : ∃ M, mkS = M := ⟨_, rfl⟩
  rw [hM] at MK BY sM
  have SM := Lib.hid sM
  clear h1 h3 R hc hb hsb hM hn sM
  go_enter Try.func48, Try.ntmps48
  go_wp2_with fail
  (with_reducible refine (MK.out _).mono ?_)
  rintro e w1 ⟨rfl, hb1⟩
  have B1 := Lib.hid hb1
  clear hb1 MK
  go_wp2_with fail
  go_loopw [4, 5] (fun c x wr => ∃ i : Nat, i ≤ 32 ∧ x = .int .i64 (i : Nat) ∧ c = .int .i64 (Mk.wrongAt (fz zs) p i : Nat) ∧ Below w.heap.size w wr) (fun _ x _ => 32 - (intOf x).toNat)
  case atStart => exact ⟨0, Nat.zero_le _, rfl, rfl, B1.out⟩
  case round =>
    obtain ⟨i, hi, rfl, rfl, hB⟩ := hrel
    have B2 := Lib.hid hB
    clear hB B1
    by_cases hlt : i < 32
    · have t0 : decide ((i : Int) < 32) = true := by simp; omega
      obtain ⟨j, hj⟩ : ∃ j, p + i = j := ⟨_, rfl⟩
      have jn : j < n := by omega
      have c1 := C1.out _ B2.out
      have c3 := C3.out _ B2.out
      have cz := CZ.out j jn _ B2.out
      have iM : i < M.size := by rw [SM.out]; exact hlt
      have bx := BY.out i iM
      obtain ⟨z, hz⟩ : ∃ z, zs.getD j 0 = z := ⟨_, rfl⟩
      obtain ⟨x, hx⟩ : ∃ z, Mk.mbit i = z := ⟨_, rfl⟩
      obtain ⟨c, hcc⟩ : ∃ z, Mk.wrongAt (fz zs) p i = z := ⟨_, rfl⟩
      have cl := Mk.wrongAt_le (fz zs) p i
      rw [hz] at cz
      rw [hx] at bx
      rw [hcc] at cl ⊢
      have HC := Lib.hid hcc
      have HJ := Lib.hid hj
      have HZ := Lib.hid (show fz zs j = z from hz)
      have HX := Lib.hid hx
      have e1 : IntKind.i64.wrap ((p : Int) + (i : Int)) = (j : Int) := by rw [IntKind.wrap_i64]; omega
      have jl : (j : Int) < (n : Int) := by omega
      clear hz hx hcc hj C1 C3 CZ BY
      by_cases g1 : (0 : Int) ≤ z
      · by_cases g2 : x = 1
        · skip
          have t1 : decide ((0 : Int) ≤ z) = true := by simp; omega
          have t2 : ((x : Int) == 1) = true := by simp; omega
          have WS := Lib.hid (show Mk.wrongAt (fz zs) p (i + 1) = c from by
            show Mk.wrongAt (fz zs) p i + _ = _
            rw [HC.out, HJ.out, HZ.out, HX.out, decide_eq_true g1, decide_eq_true g2, if_pos rfl]
            try rfl)
          clear g1 g2
          go_wp2_with fail
          go_quiet (fail)
          go_wp2_with fail
          go_roundw
          case rel => exact ⟨i + 1, by omega, by go_num, by rw [WS.out], below_drewN B2.out _⟩
          case measure => simp [intOf]; omega
        · skip
          have t1 : decide ((0 : Int) ≤ z) = true := by simp; omega
          have t2 : ((x : Int) == 1) = false := by simp; omega
          have WS := Lib.hid (show Mk.wrongAt (fz zs) p (i + 1) = c + 1 from by
            show Mk.wrongAt (fz zs) p i + _ = _
            rw [HC.out, HJ.out, HZ.out, HX.out, decide_eq_true g1, decide_eq_false g2, if_neg (by simp)]
            try rfl)
          clear g1 g2
          go_wp2_with fail
          go_quiet (fail)
          go_wp2_with fail
          go_roundw
          case rel => exact ⟨i + 1, by omega, by go_num, by rw [WS.out]; go_num, below_drewN B2.out _⟩
          case measure => simp [intOf]; omega
      · by_cases g2 : x = 1
        · skip
          have t1 : decide ((0 : Int) ≤ z) = false := by simp; omega
          have t2 : ((x : Int) == 1) = true := by simp; omega
          have WS := Lib.hid (show Mk.wrongAt (fz zs) p (i + 1) = c + 1 from by
            show Mk.wrongAt (fz zs) p i + _ = _
            rw [HC.out, HJ.out, HZ.out, HX.out, decide_eq_false g1, decide_eq_true g2, if_neg (by simp)]
            try rfl)
          clear g1 g2
          go_wp2_with fail
          go_quiet (fail)
          go_wp2_with fail
          go_roundw
          case rel => exact ⟨i + 1, by omega, by go_num, by rw [WS.out]; go_num, below_drewN B2.out _⟩
          case measure => simp [intOf]; omega
        · skip
          have t1 : decide ((0 : Int) ≤ z) = false := by simp; omega
          have t2 : ((x : Int) == 1) = false := by simp; omega
          have WS := Lib.hid (show Mk.wrongAt (fz zs) p (i + 1) = c from by
            show Mk.wrongAt (fz zs) p i + _ = _
            rw [HC.out, HJ.out, HZ.out, HX.out, decide_eq_false g1, decide_eq_false g2, if_pos rfl]
            try rfl)
          clear g1 g2
          go_wp2_with fail
          go_quiet (fail)
          go_wp2_with fail
          go_roundw
          case rel => exact ⟨i + 1, by omega, by go_num, by rw [WS.out], below_drewN B2.out _⟩
          case measure => simp [intOf]; omega
    · have t0 : decide ((i : Int) < 32) = false := by simp; omega
      obtain rfl : i = 32 := by omega
      clear C1 C3 CZ BY
      go_wp2_with fail
      go_ret
      exact ⟨rfl, B2.out⟩
end Go.Proofs.Ytlfnglinalmpjaa
