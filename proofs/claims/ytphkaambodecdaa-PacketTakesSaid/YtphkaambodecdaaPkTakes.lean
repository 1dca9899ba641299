/- PacketTakes: Take and Get of any string return what the document says. No condition. -/
import Derived.Test.YtphkaambodecdaaPkEq
import Derived.Test.YtphkaambodecdaaRowKit
import Derived.ProofKit
namespace Go.Proofs.Ytphkaambodecdaa
open Go.ChangeShapes Go.WideShapes Go.ChangeAt Go.RowKit
set_option linter.unusedVariables false

namespace packetTakes
theorem getV_form (l : List UInt8) : ∃ (q : Pkt) (c : Int), getV l = .tuple #[pkVal q, .int .i64 c] := by
  unfold getV
  split
  · split
    · exact ⟨_, _, rfl⟩
    · exact ⟨_, _, rfl⟩
  · exact ⟨_, _, rfl⟩
set_option maxRecDepth 100000 in
set_option maxHeartbeats 4000000 in
theorem walk (b : ByteArray) (hs : b.size ≤ maxLen) (w : World) : Calls Try.prog 4 #[.string b] w fun e w' => e = .returned (.bool true) ∧ Below w.heap.size w w' := by
  unfold maxLen at hs
  have SH := Lib.hid (fun w => shown_any w)
  obtain ⟨n, hn⟩ : ∃ n, b.size = n := ⟨_, rfl⟩
  rw [hn] at hs
  by_cases hl : 20000 < n
  · have t1 : decide (20000 < (n : Int)) = true := decide_eq_true (by omega)
    have t1n : decide (20000 < n) = true := decide_eq_true hl
    clear hl
    go_enter Try.func4, Try.ntmps4
    go_wp2_with fail
    (with_reducible refine (SH.out _).mono ?_)
    rintro e w1 ⟨rfl, h1⟩
    go_wp2_with fail
    go_ret
    exact ⟨rfl, h1⟩
  · have t1 : decide (20000 < (n : Int)) = false := decide_eq_false (by omega)
    have t1n : decide (20000 < n) = false := decide_eq_false hl
    have T1 := Lib.hid (fun w => ptake_any b (by omega) w)
    have T2 := Lib.hid (fun w => rtake_any b (by omega) w)
    have T3 := Lib.hid (fun w => pget_any b (by omega) w)
    have T4 := Lib.hid (fun w => rget_any b (by omega) w)
    obtain ⟨p, k, c, hv, _⟩ := tkV_form (Pk.take b.data.toList)
    obtain ⟨q, c2, hg⟩ := getV_form b.data.toList
    rw [hv] at T1 T2
    rw [hg] at T3 T4
    have z2 : (q.da.toList == q.da.toList) = true := by simp
    have z4 : (p.da.toList == p.da.toList) = true := by simp
    clear hl hv hg
    go_enter Try.func4, Try.ntmps4
    go_wp2_with fail
    (with_reducible refine (SH.out _).mono ?_)
    rintro e w1 ⟨rfl, h1⟩
    have B1 := Lib.hid h1
    clear h1
    go_wp2_with fail
    (with_reducible refine (T1.out _).mono ?_)
    rintro e w2 ⟨rfl, h2⟩
    have B2 := Lib.hid (bt B1.out h2)
    clear h2
    go_wp2_with (first
      | (refine wpList_new rfl (.alloc 23) rfl (some 3) rfl #[.bool false, .int .i64 0, .int .i64 0, .int .i64 0, .string ⟨#[]⟩] 23 (fun X => .pointer (some ⟨X, 0, none⟩)) 5 (pkCel pk0) (pk_cells pk0) (alloc_pk rfl) ?_; intro X3 w3 HX3 Sw3 CX3 Bw3)
      | (refine wpList_setAll rfl 23 (.tmp 3) (.tmp 21) rfl X3 5 [.bool p.cmd, .int .i64 p.ap, .int .i64 p.fl, .int .i64 p.ct, .string p.da] _ (pkCel p) CX3.out rfl (pk_list p) rfl rfl pk_info (by simp [Value.oneCell']) ?_; intro w4 C4 U4 S4))
    have B4 := Lib.hid (But.under (bt B2.out Bw3.out) U4.out (by have := HX3.out; have := B2.out.size; omega))
    (with_reducible refine (T2.out _).mono ?_)
    rintro e w5 ⟨rfl, h5⟩
    have B5 := Lib.hid (bt B4.out h5)
    have C35 := Lib.hid (C4.out.below h5)
    clear h5
    go_wp2_with (first
      | (refine wpList_new rfl (.alloc 23) rfl (some 6) rfl #[.bool false, .int .i64 0, .int .i64 0, .int .i64 0, .string ⟨#[]⟩] 23 (fun X => .pointer (some ⟨X, 0, none⟩)) 5 (pkCel pk0) (pk_cells pk0) (alloc_pk rfl) ?_; intro X6 w6 HX6 Sw6 CX6 Bw6)
      | (refine wpList_setAll rfl 23 (.tmp 6) (.tmp 27) rfl X6 5 [.bool p.cmd, .int .i64 p.ap, .int .i64 p.fl, .int .i64 p.ct, .string p.da] _ (pkCel p) CX6.out rfl (pk_list p) rfl rfl pk_info (by simp [Value.oneCell']) ?_; intro w7 C7 U7 S7))
    have B7 := Lib.hid (But.under (bt B5.out Bw6.out) U7.out (by have := HX6.out; have := B5.out.size; omega))
    have C37 := Lib.hid ((C35.out.below Bw6.out).but U7.out (by have := HX6.out; have := C35.out.1; omega))
    (with_reducible refine (T3.out _).mono ?_)
    rintro e w8 ⟨rfl, h8⟩
    have B8 := Lib.hid (bt B7.out h8)
    have C38 := Lib.hid (C37.out.below h8)
    have C68 := Lib.hid (C7.out.below h8)
    clear h8
    go_wp2_with (first
      | (refine wpList_new rfl (.alloc 23) rfl (some 9) rfl #[.bool false, .int .i64 0, .int .i64 0, .int .i64 0, .string ⟨#[]⟩] 23 (fun X => .pointer (some ⟨X, 0, none⟩)) 5 (pkCel pk0) (pk_cells pk0) (alloc_pk rfl) ?_; intro X9 w9 HX9 Sw9 CX9 Bw9)
      | (refine wpList_setAll rfl 23 (.tmp 9) (.tmp 33) rfl X9 5 [.bool q.cmd, .int .i64 q.ap, .int .i64 q.fl, .int .i64 q.ct, .string q.da] _ (pkCel q) CX9.out rfl (pk_list q) rfl rfl pk_info (by simp [Value.oneCell']) ?_; intro w10 C10 U10 S10))
    have B10 := Lib.hid (But.under (bt B8.out Bw9.out) U10.out (by have := HX9.out; have := B8.out.size; omega))
    have C310 := Lib.hid ((C38.out.below Bw9.out).but U10.out (by have := HX9.out; have := C38.out.1; omega))
    have C610 := Lib.hid ((C68.out.below Bw9.out).but U10.out (by have := HX9.out; have := C68.out.1; omega))
    (with_reducible refine (T4.out _).mono ?_)
    rintro e w11 ⟨rfl, h11⟩
    have B11 := Lib.hid (bt B10.out h11)
    have C311 := Lib.hid (C310.out.below h11)
    have C611 := Lib.hid (C610.out.below h11)
    have C911 := Lib.hid (C10.out.below h11)
    clear h11
    go_wp2_with (first
      | (refine wpList_new rfl (.alloc 23) rfl (some 11) rfl #[.bool false, .int .i64 0, .int .i64 0, .int .i64 0, .string ⟨#[]⟩] 23 (fun X => .pointer (some ⟨X, 0, none⟩)) 5 (pkCel pk0) (pk_cells pk0) (alloc_pk rfl) ?_; intro XE w12 HXE Sw12 CXE Bw12)
      | (refine wpList_setAll rfl 23 (.tmp 11) (.tmp 38) rfl XE 5 [.bool q.cmd, .int .i64 q.ap, .int .i64 q.fl, .int .i64 q.ct, .string q.da] _ (pkCel q) CXE.out rfl (pk_list q) rfl rfl pk_info (by simp [Value.oneCell']) ?_; intro w13 C13 U13 S13; have C313 := Lib.hid ((C311.out.below Bw12.out).but U13.out (by have := HXE.out; have := C311.out.1; omega)); have C613 := Lib.hid ((C611.out.below Bw12.out).but U13.out (by have := HXE.out; have := C611.out.1; omega)); have C913 := Lib.hid ((C911.out.below Bw12.out).but U13.out (by have := HXE.out; have := C911.out.1; omega)); have a0 : w13.cell? ⟨X9, 0, none⟩ = some (.bool q.cmd) := C913.out.cell (j := 0) (by omega); have a1 : w13.cell? ⟨X9, 1, none⟩ = some (.int .i64 q.ap) := C913.out.cell (j := 1) (by omega); have a2 : w13.cell? ⟨X9, 2, none⟩ = some (.int .i64 q.fl) := C913.out.cell (j := 2) (by omega); have a3 : w13.cell? ⟨X9, 3, none⟩ = some (.int .i64 q.ct) := C913.out.cell (j := 3) (by omega); have a4 : w13.cell? ⟨X9, 4, none⟩ = some (.string q.da) := C913.out.cell (j := 4) (by omega); have b0 : w13.cell? ⟨XE, 0, none⟩ = some (.bool q.cmd) := C13.out.cell (j := 0) (by omega); have b1 : w13.cell? ⟨XE, 1, none⟩ = some (.int .i64 q.ap) := C13.out.cell (j := 1) (by omega); have b2 : w13.cell? ⟨XE, 2, none⟩ = some (.int .i64 q.fl) := C13.out.cell (j := 2) (by omega); have b3 : w13.cell? ⟨XE, 3, none⟩ = some (.int .i64 q.ct) := C13.out.cell (j := 3) (by omega); have b4 : w13.cell? ⟨XE, 4, none⟩ = some (.string q.da) := C13.out.cell (j := 4) (by omega))
      | (refine wpList_getAll rfl 23 (.tmp 3) rfl X3 5 [.bool p.cmd, .int .i64 p.ap, .int .i64 p.fl, .int .i64 p.ct, .string p.da] _ _ C313.out rfl (pk_list p) rfl Try.underlying23 rfl pk_info ?_)
      | (refine wpList_getAll rfl 23 (.tmp 6) rfl X6 5 [.bool p.cmd, .int .i64 p.ap, .int .i64 p.fl, .int .i64 p.ct, .string p.da] _ _ C613.out rfl (pk_list p) rfl Try.underlying23 rfl pk_info ?_))
    have B13 := Lib.hid (But.under (bt B11.out Bw12.out) U13.out (by have := HXE.out; have := B11.out.size; omega))
    go_ret
    exact ⟨rfl, B13.out⟩

set_option maxRecDepth 100000 in
theorem lifted (os : Os) (started : os.Started) (H : Type) (enc : TypeId × Value → H) :
    ReturnsInHanded {} Try.checked os 4 .any (Rows.packetTakesSpec.pre6 enc Try.prog Try.f4 Rows.packetTakesRow.domain false) (Rows.packetTakesSpec.post enc Try.prog Try.f4 false true false false) := by
  refine returnsInHanded_of_change (C := Try.checked) own started (by kernel_rfl) Try.func4
    (ChangeSpec.witness6 (enc := enc) (C := Try.checked) false ⟨#[], #[.string { data := #[] }], []⟩ 8 (by kernel_rfl) (by kernel_rfl) (by kernel_rfl) (by kernel_rfl)) ?_
  intro W base args ds gs before hval0 hW _ _
  have hval : ∀ (j : Nat) t v, Try.f4.params[j]? = some t → args[j]? = some v → Value.okWide Try.prog W .any base t v := hval0
  have hW' := hW
  obtain ⟨p, q, hA0, hV, rfl, hfz, hnd⟩ := hW
  have hA : DataW.TrodAll enc Try.prog W 0 (fun _ => true) true Try.f4.params.toList args.toList ds p := hA0
  rw [Try.params4] at hA hval
  obtain ⟨v0, vs0, d0, ds0, p0, q0, hargs, rfl, rfl, h0, r0⟩ := trodAll_cons hA
  obtain ⟨rfl, rfl, rfl⟩ := trodAll_nil r0
  obtain rfl : args = #[v0] := by cases args; simp_all
  obtain ⟨rfl, rfl⟩ := trodVars_none hV
  obtain ⟨a0, rfl, rfl, rfl, w0⟩ := ChangeMaps.open_string Try.underlying9 (hval 0 9 v0 rfl rfl) h0
  clear hA0 hval0
  simp only [List.append_nil] at hW'
  refine (walk a0 w0 W).mono fun e W' ⟨he, hg⟩ => ?_
  subst he
  exact ⟨_, rfl, post_of_below (pa := []) (pv := []) hW' (fun _ _ _ => trodAll_cons_mk (shut_bool Try.underlying4 _) trodAll_mk0) (fun sp _ => (trodAll_cons_mk (ChangeMaps.shut_string Try.underlying9 w0) trodAll_mk0)) (fun _ _ => rfl) rfl
    hg (ok_one (by kernel_rfl) rfl (okWide_bool_mk Try.underlying4 _))⟩

theorem proved : Rows.PacketTakesSaid :=
  OpenClaim.holds_of_wide 4 Try.f4 rfl rfl rfl rfl rfl rfl rfl ⟨rfl, rfl, rfl, rfl, rfl⟩ rfl rfl rfl rfl rfl (by kernel_rfl) Try.func4 (by kernel_rfl)
    (of_decide_eq_true (by kernel_rfl)) (by unfold Func.isWrapper; first | (rw [if_pos (by decide +kernel)]; kernel_rfl) | (rw [if_neg (by decide +kernel)]; exact ⟨rfl, rfl⟩))
    (fun os started H enc _ => lifted os started H enc)
#print axioms proved
end packetTakes
end Go.Proofs.Ytphkaambodecdaa
