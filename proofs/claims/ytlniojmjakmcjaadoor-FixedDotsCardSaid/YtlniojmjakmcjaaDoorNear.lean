/- The contract of perigeeref01's Nearest over this program. -/
import Derived.Test.YtlniojmjakmcjaaDoorRegNear
namespace Go.Proofs.YtlniojmjakmcjaaDoor
open Go.RowKit
set_option linter.unusedVariables false

namespace BigM
theorem near_pos {u c : Nat} (hc : 0 < c) : (u + u + c) / (c + c) = Fix.up (u / c) (u % c) c false := by
  have h := Nat.div_add_mod u c
  have hr := Nat.mod_lt u hc
  generalize u / c = q at *
  generalize u % c = r at *
  have e : u + u + c = (r + r + c) + (c + c) * q := by rw [← h, Nat.add_mul]; omega
  rw [e, Nat.add_mul_div_left _ _ (by omega)]
  unfold Fix.up
  by_cases g : c ≤ r + r
  · have : (r + r + c) / (c + c) = 1 := Nat.div_eq_of_lt_le (by omega) (by omega)
    rw [this, if_pos (by simp; omega)]
    omega
  · have : (r + r + c) / (c + c) = 0 := Nat.div_eq_of_lt (by omega)
    rw [this, if_neg (by simp; omega)]
    omega
theorem near_none {u c : Nat} (hc : 0 < c) (h2 : u + u ≤ c) : Fix.up (u / c) (u % c) c true = 0 := by
  have l : u < c := by omega
  rw [Nat.div_eq_of_lt l, Nat.mod_eq_of_lt l]
  unfold Fix.up
  rw [if_neg (by simp; omega)]
theorem near_neg {u c : Nat} (hc : 0 < c) (h2 : c < u + u) :
    ((u + u - c) / (c + c) * (c + c) ≠ u + u - c → Fix.up (u / c) (u % c) c true = (u + u - c) / (c + c) + 1) ∧
    ((u + u - c) / (c + c) * (c + c) = u + u - c → Fix.up (u / c) (u % c) c true = (u + u - c) / (c + c)) := by
  have h := Nat.div_add_mod u c
  have hr := Nat.mod_lt u hc
  generalize u / c = q at *
  generalize u % c = r at *
  unfold Fix.up
  by_cases g : c ≤ r + r
  · have e : u + u - c = (r + r - c) + (c + c) * q := by rw [← h, Nat.add_mul]; omega
    have d : ((r + r - c) + (c + c) * q) / (c + c) = q := by
      rw [Nat.add_mul_div_left _ _ (by omega), Nat.div_eq_of_lt (by omega), Nat.zero_add]
    rw [e, d, Nat.mul_comm q]
    refine ⟨fun k => ?_, fun k => ?_⟩
    · rw [if_pos (by simp; omega)]
    · rw [if_neg (by simp; omega)]; rfl
  · cases q with
    | zero => rw [Nat.mul_zero] at h; omega
    | succ q =>
      have e : u + u - c = (r + r + c) + (c + c) * q := by rw [← h, Nat.mul_succ, Nat.add_mul]; omega
      have d : ((r + r + c) + (c + c) * q) / (c + c) = q := by
        rw [Nat.add_mul_div_left _ _ (by omega), Nat.div_eq_of_lt (by omega), Nat.zero_add]
      rw [e, d, Nat.mul_comm q]
      refine ⟨fun k => ?_, fun k => ?_⟩
      · rw [if_neg (by simp; omega)]
      · omega
theorem near_le {u c : Nat} (hc : 0 < c) : (u + u - c) / (c + c) ≤ u / c := by
  have h1 : (u + u - c) / (c + c) ≤ (u + u) / (c + c) := Nat.div_le_div_right (by omega)
  have h2 : (u + u) / (c + c) = u / c := by
    rw [← Nat.two_mul, ← Nat.two_mul, Nat.mul_div_mul_left _ _ (by omega)]
  omega
end BigM

theorem sgn_zero : Fix.sgnV 0 true = 0 ∧ Fix.sgnE 0 true = 0 := by decide

set_option maxHeartbeats 8000000 in
set_option maxRecDepth 100000 in
theorem bigNearest_any (neg : Bool) (u c : Nat) (hu : u < 2 ^ 130) (hc0 : 0 < c) (hc : c < 2 ^ 64) (hq : u / c < 2 ^ 127) (w : World) :
    Calls Tryd.prog 30 #[.bool neg, Big u, Big c] w fun e w' => e = .returned (.tuple #[.int .i64 (Fix.sgnV (Fix.up (u / c) (u % c) c neg) neg), .int .i64 (Fix.sgnE (Fix.up (u / c) (u % c) c neg) neg)]) ∧ Below w.heap.size w w' := by
  have HU := Lib.hid hu
  have HC0 := Lib.hid hc0
  have HC := Lib.hid hc
  have HQ := Lib.hid hq
  obtain ⟨V, hV⟩ : ∃ V, Fix.sgnV (Fix.up (u / c) (u % c) c neg) neg = V := ⟨_, rfl⟩
  obtain ⟨E, hE⟩ : ∃ E, Fix.sgnE (Fix.up (u / c) (u % c) c neg) neg = E := ⟨_, rfl⟩
  rw [hV, hE]
  have HV := Lib.hid hV
  have HE := Lib.hid hE
  clear hu hc0 hc hq hV hE
  unfold Big
  go_enter Tryd.func30, Tryd.ntmps30
  go_upto_region 1 with fail
  refine world_var (fun W hW => ?_)
  have r0 : Row W w.heap.size (BigM.dg u) := by rw [hW]; exact (row_new w _).alloc _
  have r1 : Row W (w.heap.size + 1) (BigM.dg c) := by
    rw [hW]
    have := row_new (w.alloc (.cells (arr (BigM.dg u)) 47)) (BigM.dg c)
    rw [World.size_alloc] at this
    exact this
  have B0 : Below w.heap.size w W := by rw [hW]; go_grown
  refine near_twice u (B := W.heap.size) (by kernel_rfl) rfl rfl rfl rfl rfl rfl rfl (Nat.le_refl _) rfl r0 ?_
  intro p w1 B1 hp Rt R0
  have H0 := Lib.hid (show Row w1 w.heap.size (BigM.dg u) from R0)
  have H1 := Lib.hid (show Row w1 (w.heap.size + 1) (BigM.dg c) from r1.below B1)
  have HT := Lib.hid (show Row w1 p (BigM.dg (u + u)) from Rt)
  have HB := Lib.hid (show Below w.heap.size w w1 from B0.trans (B1.mono B0.size))
  have HP := Lib.hid (show w.heap.size + 1 < p from by have := r1.lt; omega)
  clear hW r0 r1 B0 B1 hp Rt R0
  clear W
  have CL : Hid (c < 65536 ^ 17) := Lib.hid (by have := HC.out; omega)
  have TL : Hid (u + u < 65536 ^ 17) := Lib.hid (by have := HU.out; omega)
  simp only [Act.put, List.setIfInBounds_toArray, List.set_cons_succ, List.set_cons_zero, ptr, Big]
  cases neg with
  | false =>
    go_upto_region 9 with fail
    refine near_pos c (u + u) (by have := HU.out; have := HC.out; omega) (by have := HC0.out; omega) (by have := HC.out; omega) (Nat.lt_of_le_of_lt (Nat.div_le_self _ _) (by have := HU.out; have := HC.out; omega)) (B := w1.heap.size) (by kernel_rfl) rfl rfl rfl rfl rfl rfl rfl rfl rfl rfl rfl rfl rfl rfl (Nat.le_refl _) rfl H1.out rfl HT.out ?_
    intro w2 B2 _ _
    have HB2 := Lib.hid (HB.out.trans (B2.mono HB.out.size))
    rw [BigM.near_pos HC0.out, HV.out, HE.out]
    clear B2
    simp only [Act.put, List.setIfInBounds_toArray, List.set_cons_succ, List.set_cons_zero, Big]
    go_wp2_with fail
    go_ret2
    exact ⟨rfl, HB2.out⟩
  | true =>
    by_cases less : c < u + u
    · have C1 : decide (c < u + u) = true := decide_eq_true less
      have LS := Lib.hid less
      clear less
      go_upto_region 3 with fail
      refine near_less c (u + u) CL.out TL.out (B := w1.heap.size) (by kernel_rfl) rfl rfl rfl rfl rfl rfl (Nat.le_refl _) rfl H1.out rfl HT.out ?_
      intro w2 B2 K1 KT
      have H1 := Lib.hid K1
      have HT := Lib.hid KT
      have HB := Lib.hid (HB.out.trans (B2.mono HB.out.size))
      clear B2 K1 KT H0
      rw [C1]
      simp only [Act.put, List.setIfInBounds_toArray, List.set_cons_succ, List.set_cons_zero, Big]
      go_upto_region 5 with fail
      refine near_quot c (u + u) CL.out TL.out (Nat.le_of_lt LS.out) (by have := HU.out; omega) (by have := HC0.out; omega) (by have := HC.out; omega) (B := w2.heap.size) (by kernel_rfl) rfl rfl rfl rfl rfl rfl rfl rfl rfl rfl rfl (Nat.le_refl _) rfl H1.out rfl HT.out ?_
      intro n w3 B3 hn RN K1 KT
      have HM := Lib.hid (BigM.near_neg HC0.out LS.out)
      have NL := Lib.hid (BigM.near_le (u := u) HC0.out)
      have NP := Lib.hid (Nat.div_mul_le_self (u + u - c) (c + c))
      obtain ⟨m, hm⟩ : ∃ m, (u + u - c) / (c + c) = m := ⟨_, rfl⟩
      rw [hm] at RN HM NL NP ⊢
      clear hm
      have HN := Lib.hid RN
      have H1 := Lib.hid K1
      have HT := Lib.hid KT
      have HNB := Lib.hid (show w.heap.size ≤ n from Nat.le_trans HB.out.size hn)
      have HB := Lib.hid (show Below w.heap.size w w3 from HB.out.trans (B3.mono HB.out.size))
      clear B3 RN K1 KT hn
      simp only [Act.put, List.setIfInBounds_toArray, List.set_cons_succ, List.set_cons_zero, ptr, Big]
      have mb : m < 65536 ^ 8 := by have := HQ.out; have := NL.out; omega
      have MB := Lib.hid mb
      clear mb
      by_cases same : m * (c + c) = u + u - c
      · have C2 : decide (m * (c + c) ≠ u + u - c) = false := by simp [same]
        have U := Lib.hid (HM.out.2 same)
        clear same
        go_upto_region 6 with fail
        refine near_neq c (u + u) m CL.out TL.out (Nat.le_of_lt LS.out) MB.out (by have := HC.out; omega) (by have := NP.out; have := TL.out; omega) (by have := TL.out; omega) (B := w3.heap.size) (by kernel_rfl) rfl rfl rfl rfl rfl rfl rfl rfl rfl rfl rfl (Nat.le_refl _) rfl H1.out rfl HT.out rfl HN.out ?_
        intro w4 B4 _ _ RN
        have HN := Lib.hid RN
        have HB := Lib.hid (HB.out.trans (B4.mono HB.out.size))
        clear B4 RN
        rw [C2]
        simp only [Act.put, List.setIfInBounds_toArray, List.set_cons_succ, List.set_cons_zero, Big]
        go_upto_region 8 with fail
        refine near_neg m (by have := MB.out; omega) (B := w4.heap.size) (by kernel_rfl) rfl rfl rfl rfl rfl rfl rfl rfl (Nat.le_refl _) rfl HN.out ?_
        intro w5 B5 _
        have HB := Lib.hid (HB.out.trans (B5.mono HB.out.size))
        rw [← U.out, HV.out, HE.out]
        clear B5
        simp only [Act.put, List.setIfInBounds_toArray, List.set_cons_succ, List.set_cons_zero, Big]
        go_wp2_with fail
        go_ret2
        exact ⟨rfl, HB.out⟩
      · have C2 : decide (m * (c + c) ≠ u + u - c) = true := by simp [same]
        have U := Lib.hid (HM.out.1 same)
        clear same
        go_upto_region 6 with fail
        refine near_neq c (u + u) m CL.out TL.out (Nat.le_of_lt LS.out) MB.out (by have := HC.out; omega) (by have := NP.out; have := TL.out; omega) (by have := TL.out; omega) (B := w3.heap.size) (by kernel_rfl) rfl rfl rfl rfl rfl rfl rfl rfl rfl rfl rfl (Nat.le_refl _) rfl H1.out rfl HT.out rfl HN.out ?_
        intro w4 B4 _ _ RN
        have HN := Lib.hid RN
        have HB := Lib.hid (HB.out.trans (B4.mono HB.out.size))
        clear B4 RN
        rw [C2]
        simp only [Act.put, List.setIfInBounds_toArray, List.set_cons_succ, List.set_cons_zero, Big]
        go_upto_region 7 with fail
        refine near_inc m (B := w.heap.size) (by kernel_rfl) rfl rfl rfl rfl rfl rfl HB.out.size rfl HN.out HNB.out ?_
        intro w5 B5 RN
        have HN := Lib.hid RN
        have HB := Lib.hid (HB.out.trans B5)
        clear B5 RN
        simp only [Act.put, List.setIfInBounds_toArray, List.set_cons_succ, List.set_cons_zero, Big]
        go_upto_region 8 with fail
        refine near_neg (m + 1) (by have := MB.out; omega) (B := w5.heap.size) (by kernel_rfl) rfl rfl rfl rfl rfl rfl rfl rfl (Nat.le_refl _) rfl HN.out ?_
        intro w6 B6 _
        have HB := Lib.hid (HB.out.trans (B6.mono HB.out.size))
        rw [← U.out, HV.out, HE.out]
        clear B6
        simp only [Act.put, List.setIfInBounds_toArray, List.set_cons_succ, List.set_cons_zero, Big]
        go_wp2_with fail
        go_ret2
        exact ⟨rfl, HB.out⟩
    · have C1 : decide (c < u + u) = false := decide_eq_false less
      have v : V = 0 ∧ E = 0 := by
        have h1 := HV.out
        have h2 := HE.out
        rw [BigM.near_none HC0.out (by omega)] at h1 h2
        exact ⟨h1.symm.trans sgn_zero.1, h2.symm.trans sgn_zero.2⟩
      obtain ⟨rfl, rfl⟩ := v
      clear less
      go_upto_region 3 with fail
      refine near_less c (u + u) CL.out TL.out (B := w1.heap.size) (by kernel_rfl) rfl rfl rfl rfl rfl rfl (Nat.le_refl _) rfl H1.out rfl HT.out ?_
      intro w2 B2 K1 KT
      have HB := Lib.hid (HB.out.trans (B2.mono HB.out.size))
      clear B2 K1 KT
      rw [C1]
      simp only [Act.put, List.setIfInBounds_toArray, List.set_cons_succ, List.set_cons_zero, Big]
      go_wp2_with fail
      go_ret2
      exact ⟨rfl, HB.out⟩
end Go.Proofs.YtlniojmjakmcjaaDoor
