/- PacketMessage: the packets of a message yield it with the last one and not before. No condition. -/
import Derived.Test.YtphkaambodecdaaPkMsg
import Derived.ProofKit
namespace Go.Proofs.Ytphkaambodecdaa
open Go.ChangeShapes Go.WideShapes Go.ChangeAt Go.RowKit
set_option linter.unusedVariables false

namespace packetMessage
set_option maxRecDepth 100000 in
set_option maxHeartbeats 8000000 in
theorem walk_long (q : Pkt) (hq : PkWf q) (ao : Option Addr) (zs : List Pkt) (cap : Nat) (hzc : zs.length ≤ cap) (hcm : cap ≤ maxLen) (w : World) (hl : 20000 < q.da.size) : Calls Try.prog 8 #[pkVal q, .slice ao zs.length cap] w fun e w' => e = .returned (.bool true) ∧ Below w.heap.size w w' := by
  have SH := Lib.hid (fun w => shown_any w)
  obtain ⟨n, hn⟩ : ∃ n, q.da.size = n := ⟨_, rfl⟩
  obtain ⟨no, hno⟩ : ∃ no, zs.length = no := ⟨_, rfl⟩
  have hs : n ≤ 9223372036854775807 := by have := hq.2.2.2; rw [← hn]; unfold maxLen at this; omega
  have hos : no ≤ 9223372036854775807 := by rw [← hno]; unfold maxLen at hcm; omega
  have t1 : decide (20000 < (n : Int)) = true := decide_eq_true (by omega)
  have t1n : decide (20000 < n) = true := decide_eq_true (by omega)
  clear hq hzc hcm
  go_enter Try.func8, Try.ntmps8
  go_wp2_with (refine wpList_new rfl (.box 35 (.tmp 0)) rfl (some 2) rfl #[.bool q.cmd, .int .i64 q.ap, .int .i64 q.fl, .int .i64 q.ct, .string q.da] 35 (fun X => .pointer (some ⟨X, 0, none⟩)) 5 (pkCel q) (pk_cells q) (box_cut rfl rfl) ?_; intro X w0 HX Sw0 CX Bw0)
  (with_reducible refine (SH.out _).mono ?_)
  rintro e w1 ⟨rfl, h1⟩
  have B1 := Lib.hid (bt Bw0.out h1)
  have CX1 := Lib.hid (CX.out.below h1)
  have c0 : w1.cell? ⟨X, 0, none⟩ = some (.bool q.cmd) := CX1.out.cell (j := 0) (by omega)
  have c1 : w1.cell? ⟨X, 1, none⟩ = some (.int .i64 q.ap) := CX1.out.cell (j := 1) (by omega)
  have c2 : w1.cell? ⟨X, 2, none⟩ = some (.int .i64 q.fl) := CX1.out.cell (j := 2) (by omega)
  have c3 : w1.cell? ⟨X, 3, none⟩ = some (.int .i64 q.ct) := CX1.out.cell (j := 3) (by omega)
  have c4 : w1.cell? ⟨X, 4, none⟩ = some (.string q.da) := CX1.out.cell (j := 4) (by omega)
  clear h1
  go_wp2_with fail
  go_ret
  exact ⟨rfl, B1.out⟩
set_option maxRecDepth 100000 in
set_option maxHeartbeats 8000000 in
theorem walk_many (q : Pkt) (hq : PkWf q) (ao : Option Addr) (zs : List Pkt) (cap : Nat) (hzc : zs.length ≤ cap) (hcm : cap ≤ maxLen) (w : World) (hl : ¬ 20000 < q.da.size) (hol : 100 < zs.length) : Calls Try.prog 8 #[pkVal q, .slice ao zs.length cap] w fun e w' => e = .returned (.bool true) ∧ Below w.heap.size w w' := by
  have SH := Lib.hid (fun w => shown_any w)
  obtain ⟨n, hn⟩ : ∃ n, q.da.size = n := ⟨_, rfl⟩
  obtain ⟨no, hno⟩ : ∃ no, zs.length = no := ⟨_, rfl⟩
  have hs : n ≤ 9223372036854775807 := by have := hq.2.2.2; rw [← hn]; unfold maxLen at this; omega
  have hos : no ≤ 9223372036854775807 := by rw [← hno]; unfold maxLen at hcm; omega
  have t1 : decide (20000 < (n : Int)) = false := decide_eq_false (by omega)
  have t1n : decide (20000 < n) = false := decide_eq_false (by omega)
  have t2 : decide (100 < (no : Int)) = true := decide_eq_true (by omega)
  have t2n : decide (100 < no) = true := decide_eq_true (by omega)
  clear hq hzc hcm
  go_enter Try.func8, Try.ntmps8
  go_wp2_with (refine wpList_new rfl (.box 35 (.tmp 0)) rfl (some 2) rfl #[.bool q.cmd, .int .i64 q.ap, .int .i64 q.fl, .int .i64 q.ct, .string q.da] 35 (fun X => .pointer (some ⟨X, 0, none⟩)) 5 (pkCel q) (pk_cells q) (box_cut rfl rfl) ?_; intro X w0 HX Sw0 CX Bw0)
  (with_reducible refine (SH.out _).mono ?_)
  rintro e w1 ⟨rfl, h1⟩
  have B1 := Lib.hid (bt Bw0.out h1)
  have CX1 := Lib.hid (CX.out.below h1)
  have c0 : w1.cell? ⟨X, 0, none⟩ = some (.bool q.cmd) := CX1.out.cell (j := 0) (by omega)
  have c1 : w1.cell? ⟨X, 1, none⟩ = some (.int .i64 q.ap) := CX1.out.cell (j := 1) (by omega)
  have c2 : w1.cell? ⟨X, 2, none⟩ = some (.int .i64 q.fl) := CX1.out.cell (j := 2) (by omega)
  have c3 : w1.cell? ⟨X, 3, none⟩ = some (.int .i64 q.ct) := CX1.out.cell (j := 3) (by omega)
  have c4 : w1.cell? ⟨X, 4, none⟩ = some (.string q.da) := CX1.out.cell (j := 4) (by omega)
  clear h1
  go_wp2_with fail
  go_ret
  exact ⟨rfl, B1.out⟩
set_option maxRecDepth 100000 in
set_option maxHeartbeats 8000000 in
theorem walk_no (q : Pkt) (hq : PkWf q) (ao : Option Addr) (zs : List Pkt) (cap : Nat) (hzc : zs.length ≤ cap) (hcm : cap ≤ maxLen) (w : World) (hl : ¬ 20000 < q.da.size) (hol : ¬ 100 < zs.length) (E : Int) (hE : E ≠ 0) (SP : ∀ w, Calls Try.prog 19 #[.bool q.cmd, .int .i64 q.ap, .int .i64 q.fl, .string q.da, .int .i64 q.ct] w fun e w' => e = .returned (.tuple #[.slice none 0 0, .int .i64 E]) ∧ w = w') : Calls Try.prog 8 #[pkVal q, .slice ao zs.length cap] w fun e w' => e = .returned (.bool true) ∧ Below w.heap.size w w' := by
  have SH := Lib.hid (fun w => shown_any w)
  obtain ⟨n, hn⟩ : ∃ n, q.da.size = n := ⟨_, rfl⟩
  obtain ⟨no, hno⟩ : ∃ no, zs.length = no := ⟨_, rfl⟩
  have hs : n ≤ 9223372036854775807 := by have := hq.2.2.2; rw [← hn]; unfold maxLen at this; omega
  have hos : no ≤ 9223372036854775807 := by rw [← hno]; unfold maxLen at hcm; omega
  have t1 : decide (20000 < (n : Int)) = false := decide_eq_false (by omega)
  have t1n : decide (20000 < n) = false := decide_eq_false (by omega)
  have t2 : decide (100 < (no : Int)) = false := decide_eq_false (by omega)
  have t2n : decide (100 < no) = false := decide_eq_false (by omega)
  have SPL := Lib.hid SP
  have d0 : (E != 0) = true := by simpa using hE
  clear SP hE
  clear hq hzc hcm
  go_enter Try.func8, Try.ntmps8
  go_wp2_with (refine wpList_new rfl (.box 35 (.tmp 0)) rfl (some 2) rfl #[.bool q.cmd, .int .i64 q.ap, .int .i64 q.fl, .int .i64 q.ct, .string q.da] 35 (fun X => .pointer (some ⟨X, 0, none⟩)) 5 (pkCel q) (pk_cells q) (box_cut rfl rfl) ?_; intro X w0 HX Sw0 CX Bw0)
  (with_reducible refine (SH.out _).mono ?_)
  rintro e w1 ⟨rfl, h1⟩
  have B1 := Lib.hid (bt Bw0.out h1)
  have CX1 := Lib.hid (CX.out.below h1)
  have c0 : w1.cell? ⟨X, 0, none⟩ = some (.bool q.cmd) := CX1.out.cell (j := 0) (by omega)
  have c1 : w1.cell? ⟨X, 1, none⟩ = some (.int .i64 q.ap) := CX1.out.cell (j := 1) (by omega)
  have c2 : w1.cell? ⟨X, 2, none⟩ = some (.int .i64 q.fl) := CX1.out.cell (j := 2) (by omega)
  have c3 : w1.cell? ⟨X, 3, none⟩ = some (.int .i64 q.ct) := CX1.out.cell (j := 3) (by omega)
  have c4 : w1.cell? ⟨X, 4, none⟩ = some (.string q.da) := CX1.out.cell (j := 4) (by omega)
  clear h1
  go_wp2_with fail
  (refine (SPL.out _).mono ?_)
  rintro e w2 ⟨rfl, rfl⟩
  go_wp2_with fail
  go_ret
  exact ⟨rfl, B1.out⟩
set_option maxRecDepth 100000 in
set_option maxHeartbeats 8000000 in
theorem walk_lots (q : Pkt) (hq : PkWf q) (ao : Option Addr) (zs : List Pkt) (cap : Nat) (hzc : zs.length ≤ cap) (hcm : cap ≤ maxLen) (w : World) (hl : ¬ 20000 < q.da.size) (hol : ¬ 100 < zs.length) (K : Nat) (hK : 600 < K) (hKm : K ≤ 20000) (hct : q.ct < 40) (f : Nat → Pkt) (SP : ∀ w, Calls Try.prog 19 #[.bool q.cmd, .int .i64 q.ap, .int .i64 q.fl, .string q.da, .int .i64 q.ct] w fun e w' => ∃ sa sc, e = .returned (.tuple #[.slice sa K sc, .int .i64 0]) ∧ w'.ownsRow w.heap.size 23 5 (.slice sa K sc) K (pkL f K) ∧ Below w.heap.size w w') : Calls Try.prog 8 #[pkVal q, .slice ao zs.length cap] w fun e w' => e = .returned (.bool true) ∧ Below w.heap.size w w' := by
  have SH := Lib.hid (fun w => shown_any w)
  obtain ⟨n, hn⟩ : ∃ n, q.da.size = n := ⟨_, rfl⟩
  obtain ⟨no, hno⟩ : ∃ no, zs.length = no := ⟨_, rfl⟩
  have hs : n ≤ 9223372036854775807 := by have := hq.2.2.2; rw [← hn]; unfold maxLen at this; omega
  have hos : no ≤ 9223372036854775807 := by rw [← hno]; unfold maxLen at hcm; omega
  have t1 : decide (20000 < (n : Int)) = false := decide_eq_false (by omega)
  have t1n : decide (20000 < n) = false := decide_eq_false (by omega)
  have t2 : decide (100 < (no : Int)) = false := decide_eq_false (by omega)
  have t2n : decide (100 < no) = false := decide_eq_false (by omega)
  have SPL := Lib.hid SP
  have t4 : decide (600 < (K : Int)) = true := decide_eq_true (by omega)
  have t4n : decide (600 < K) = true := decide_eq_true hK
  have t5 : decide (q.ct < 40) = true := decide_eq_true hct
  clear SP hK
  clear hq hzc hcm
  go_enter Try.func8, Try.ntmps8
  go_wp2_with (refine wpList_new rfl (.box 35 (.tmp 0)) rfl (some 2) rfl #[.bool q.cmd, .int .i64 q.ap, .int .i64 q.fl, .int .i64 q.ct, .string q.da] 35 (fun X => .pointer (some ⟨X, 0, none⟩)) 5 (pkCel q) (pk_cells q) (box_cut rfl rfl) ?_; intro X w0 HX Sw0 CX Bw0)
  (with_reducible refine (SH.out _).mono ?_)
  rintro e w1 ⟨rfl, h1⟩
  have B1 := Lib.hid (bt Bw0.out h1)
  have CX1 := Lib.hid (CX.out.below h1)
  have c0 : w1.cell? ⟨X, 0, none⟩ = some (.bool q.cmd) := CX1.out.cell (j := 0) (by omega)
  have c1 : w1.cell? ⟨X, 1, none⟩ = some (.int .i64 q.ap) := CX1.out.cell (j := 1) (by omega)
  have c2 : w1.cell? ⟨X, 2, none⟩ = some (.int .i64 q.fl) := CX1.out.cell (j := 2) (by omega)
  have c3 : w1.cell? ⟨X, 3, none⟩ = some (.int .i64 q.ct) := CX1.out.cell (j := 3) (by omega)
  have c4 : w1.cell? ⟨X, 4, none⟩ = some (.string q.da) := CX1.out.cell (j := 4) (by omega)
  clear h1
  go_wp2_with fail
  (refine (SPL.out _).mono ?_)
  rintro e w2 ⟨sa, sc, rfl, O1, h2⟩
  have B2 := Lib.hid (bt B1.out h2)
  have CX2 := Lib.hid (CX1.out.below h2)
  clear h2 O1 c0 c1 c2 c3 c4
  have c0 : w2.cell? ⟨X, 0, none⟩ = some (.bool q.cmd) := CX2.out.cell (j := 0) (by omega)
  have c1 : w2.cell? ⟨X, 1, none⟩ = some (.int .i64 q.ap) := CX2.out.cell (j := 1) (by omega)
  have c2 : w2.cell? ⟨X, 2, none⟩ = some (.int .i64 q.fl) := CX2.out.cell (j := 2) (by omega)
  have c3 : w2.cell? ⟨X, 3, none⟩ = some (.int .i64 q.ct) := CX2.out.cell (j := 3) (by omega)
  have c4 : w2.cell? ⟨X, 4, none⟩ = some (.string q.da) := CX2.out.cell (j := 4) (by omega)
  go_wp2_with fail
  go_ret
  exact ⟨rfl, B2.out⟩
theorem walk (q : Pkt) (hq : PkWf q) (ao : Option Addr) (cap : Nat) (zs : List Pkt) (hzc : zs.length ≤ cap) (hcm : cap ≤ maxLen) (w : World) (R : Pkts w ao zs) : Calls Try.prog 8 #[pkVal q, .slice ao zs.length cap] w fun e w' => e = .returned (.bool true) ∧ Below w.heap.size w w' := by
  by_cases hl : 20000 < q.da.size
  · exact walk_long q hq ao zs cap hzc hcm w hl
  by_cases hol : 100 < zs.length
  · exact walk_many q hq ao zs cap hzc hcm w hl hol
  by_cases h : cutOk q.ap q.fl q.ct q.da.size
  · obtain ⟨⟨a1, a2⟩, ⟨b1, b2⟩, ⟨c1, c2⟩, n0⟩ := h
    obtain ⟨c, hc⟩ : ∃ c : Nat, q.fl = c := ⟨q.fl.toNat, by omega⟩
    obtain ⟨m, hm⟩ : ∃ m : Nat, q.ct = m := ⟨q.ct.toNat, by omega⟩
    by_cases hg : 16384 < q.da.size
    · refine walk_no q hq ao zs cap hzc hcm w hl hol 3 (by decide) (fun w => ?_)
      have := psplit_long q.cmd q.ap c m q.da _ rfl ⟨a1, a2⟩ (by omega) ⟨by omega, by omega⟩ (by omega) hg (by omega) w
      rw [← hc, ← hm] at this
      exact this
    · by_cases hK : Pk.cnt q.da.size m ≤ 600
      · exact walk_main q hq ao zs cap hzc hcm w R (by omega) (by omega) c m hc hm ⟨a1, a2⟩ (by omega) ⟨by omega, by omega⟩ (by omega) hK
      · have hk2 : 600 * m < q.da.size := (Pk.cnt_lt (by omega)).1 (by omega)
        have hk3 : ¬ 20000 < Pk.cnt q.da.size m := fun g => by
          have := (Pk.cnt_lt (n := q.da.size) (most := m) (k := 20000) (by omega)).1 g
          omega
        refine walk_lots q hq ao zs cap hzc hcm w hl hol (Pk.cnt q.da.size m) (by omega) (by omega) (by omega) (Pk.cut q.cmd q.ap q.fl q.da.data.toList m) (fun w => ?_)
        have := psplit_ok q.cmd q.ap c m q.da _ rfl ⟨a1, a2⟩ (by omega) ⟨by omega, by omega⟩ (by omega) (by omega) w
        rw [← hc, ← hm] at this
        exact this
  · exact walk_no q hq ao zs cap hzc hcm w hl hol 2 (by decide) (fun w => psplit_bad q.cmd q.ap q.fl q.ct q.da h w)

set_option maxRecDepth 100000 in
theorem lifted (os : Os) (started : os.Started) (H : Type) (enc : TypeId × Value → H) :
    ReturnsInHanded {} Try.checked os 8 .any (Rows.packetMessageSpec.pre6 enc Try.prog Try.f8 Rows.packetMessageRow.domain false) (Rows.packetMessageSpec.post enc Try.prog Try.f8 false true false false) := by
  refine returnsInHanded_of_change (C := Try.checked) own started (by kernel_rfl) Try.func8
    (ChangeSpec.witness6 (enc := enc) (C := Try.checked) false ⟨#[], #[.agg #[.bool false, .int .i64 0, .int .i64 0, .int .i64 0, .string { data := #[] }], .slice none 0 0], []⟩ 8 (by kernel_rfl) (by kernel_rfl) (by kernel_rfl) (by kernel_rfl)) ?_
  intro W base args ds gs before hval0 hW _ _
  have hval : ∀ (j : Nat) t v, Try.f8.params[j]? = some t → args[j]? = some v → Value.okWide Try.prog W .any base t v := hval0
  have hW' := hW
  obtain ⟨p, q, hA0, hV, rfl, hfz, hnd⟩ := hW
  have hA : DataW.TrodAll enc Try.prog W 0 (fun _ => true) true Try.f8.params.toList args.toList ds p := hA0
  rw [Try.params8] at hA hval
  obtain ⟨v0, vs0, d0, ds0, p0, q0, hargs, rfl, rfl, h0, r0⟩ := trodAll_cons hA
  obtain ⟨v1, vs1, d1, ds1, p1, q1, rfl, rfl, rfl, h1, r1⟩ := trodAll_cons r0
  obtain ⟨rfl, rfl, rfl⟩ := trodAll_nil r1
  obtain rfl : args = #[v0, v1] := by cases args; simp_all
  obtain ⟨rfl, rfl⟩ := trodVars_none hV
  obtain ⟨a0, rfl, w0, shut0⟩ := cut_arg (hval 0 35 v0 rfl rfl) h0
  obtain ⟨x1, y1, z1, e1⟩ := okWide_slice Try.underlying36 (hval 1 36 v1 rfl rfl)
  have S1 := pks_arg (by rw [e1]; rfl) h1
  clear e1
  obtain ⟨ao1, zs1, cap1, rfl, l1, m1, R1, shut1⟩ := S1
  clear hA0 hval0
  simp only [List.append_nil] at hW'
  refine (walk a0 w0 ao1 cap1 zs1 l1 m1 W R1).mono fun e W' ⟨he, hg⟩ => ?_
  subst he
  exact ⟨_, rfl, post_of_below (pa := (p0 ++ (p1 ++ []))) (pv := []) hW' (fun _ _ _ => trodAll_cons_mk (shut_bool Try.underlying4 _) trodAll_mk0) (fun sp hsp => (trodAll_cons_mk (shut0 W' hg sp (fun q hq => hsp q (by simp [hq]))) (trodAll_cons_mk (shut1 W' hg sp (fun q hq => hsp q (by simp [hq]))) trodAll_mk0))) (fun _ _ => rfl) (by simp)
    hg (ok_one (by kernel_rfl) rfl (okWide_bool_mk Try.underlying4 _))⟩

theorem proved : Rows.PacketMessageSaid :=
  OpenClaim.holds_of_wide 8 Try.f8 rfl rfl rfl rfl rfl rfl rfl ⟨rfl, rfl, rfl, rfl, rfl⟩ rfl rfl rfl rfl rfl (by kernel_rfl) Try.func8 (by kernel_rfl)
    (of_decide_eq_true (by kernel_rfl)) (by unfold Func.isWrapper; first | (rw [if_pos (by decide +kernel)]; kernel_rfl) | (rw [if_neg (by decide +kernel)]; exact ⟨rfl, rfl⟩))
    (fun os started H enc _ => lifted os started H enc)
#print axioms proved
end packetMessage
end Go.Proofs.Ytphkaambodecdaa
