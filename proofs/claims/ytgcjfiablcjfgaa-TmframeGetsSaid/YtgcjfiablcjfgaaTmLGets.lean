/- TmLGets -/
import Derived.Test.YtgcjfiablcjfgaaTpShown
import Derived.Test.YtgcjfiablcjfgaaTmArg
import Derived.ProofKit
/- TmframeGets: Get of any string returns what the document says. No condition. -/
namespace Go.Proofs.Ytgcjfiablcjfgaa
open Go.ChangeShapes Go.WideShapes Go.ChangeAt Go.RowKit
set_option linter.unusedVariables false

namespace tmframeGets
set_option maxRecDepth 100000 in
set_option maxHeartbeats 4000000 in
theorem walk (b : ByteArray) (hb : b.size ≤ maxLen) (w : World) : Calls Try.prog 4 #[.string b] w fun e w' => e = .returned (.bool true) ∧ Below w.heap.size w w' := by
  unfold maxLen at hb
  have SH := Lib.hid (fun w => tshown_any w)
  obtain ⟨n, hn⟩ : ∃ n, b.size = n := ⟨_, rfl⟩
  rw [hn] at hb
  by_cases hl : 5000 < n
  · have t1 : decide (5000 < (n : Int)) = true := decide_eq_true (by omega)
    have t1n : decide (5000 < n) = true := decide_eq_true hl
    clear hl
    go_enter Try.func4, Try.ntmps4
    go_wp2_with fail
    (with_reducible refine (SH.out _).mono ?_)
    rintro e w1 ⟨rfl, h1⟩
    go_wp2_with fail
    go_ret
    exact ⟨rfl, h1⟩
  · have t1 : decide (5000 < (n : Int)) = false := decide_eq_false (by omega)
    have t1n : decide (5000 < n) = false := decide_eq_false hl
    have G1 := Lib.hid (fun w => tget_any b (by omega) w)
    have G2 := Lib.hid (fun w => rtget_any b (by unfold maxLen; omega) w)
    obtain ⟨⟨p, c⟩, hg⟩ : ∃ g, Tm.get b.data.toList = g := ⟨_, rfl⟩
    rw [hg] at G1 G2
    simp only at G1 G2
    have z2 : (p.da.toList == p.da.toList) = true := by simp
    clear hl hg
    go_enter Try.func4, Try.ntmps4
    go_wp2_with fail
    (with_reducible refine (SH.out _).mono ?_)
    rintro e w1 ⟨rfl, h1⟩
    have B1 := Lib.hid h1
    clear h1
    go_wp2_with fail
    (with_reducible refine (G1.out _).mono ?_)
    rintro e w2 ⟨rfl, h2⟩
    have B2 := Lib.hid (bt B1.out h2)
    clear h2
    go_wp2_with (first
      | ((with_reducible refine atList ?_); refine wpList_new rfl (.alloc 24) rfl (some 3) rfl #[.int .i64 0, .int .i64 0, .int .i64 0, .int .i64 0, .int .i64 0, .string ⟨#[]⟩, .int .u32 0] 24 (fun X => .pointer (some ⟨X, 0, none⟩)) 7 (tmCel tm0) (tm_cells tm0) (alloc_tm rfl) ?_; intro X3 w3 HX3 Sw3 CX3 Bw3)
      | ((with_reducible refine atList ?_); refine wpList_setAll rfl 24 (.tmp 3) (.tmp 15) rfl X3 7 [.int .i64 p.cr, .int .i64 p.ch, .int .i64 p.ma, .int .i64 p.ct, .int .i64 p.fi, .string p.da, .int .u32 (p.wo : Nat)] _ (tmCel p) CX3.out rfl (tm_list p) rfl rfl tm_info (by simp [Value.oneCell']) ?_; intro w4 C4 U4 S4))
    have B4 := Lib.hid (But.under (bt B2.out Bw3.out) U4.out (by have := HX3.out; have := B2.out.size; omega))
    (with_reducible refine (G2.out _).mono ?_)
    rintro e w5 ⟨rfl, h5⟩
    have B5 := Lib.hid (bt B4.out h5)
    have C35 := Lib.hid (C4.out.below h5)
    clear h5
    go_wp2_with (first
      | ((with_reducible refine atList ?_); refine wpList_new rfl (.alloc 24) rfl (some 5) rfl #[.int .i64 0, .int .i64 0, .int .i64 0, .int .i64 0, .int .i64 0, .string ⟨#[]⟩, .int .u32 0] 24 (fun X => .pointer (some ⟨X, 0, none⟩)) 7 (tmCel tm0) (tm_cells tm0) (alloc_tm rfl) ?_; intro X5 w6 HX5 Sw6 CX5 Bw6)
      | ((with_reducible refine atList ?_); refine wpList_setAll rfl 24 (.tmp 5) (.tmp 20) rfl X5 7 [.int .i64 p.cr, .int .i64 p.ch, .int .i64 p.ma, .int .i64 p.ct, .int .i64 p.fi, .string p.da, .int .u32 (p.wo : Nat)] _ (tmCel p) CX5.out rfl (tm_list p) rfl rfl tm_info (by simp [Value.oneCell']) ?_; intro w7 C7 U7 S7; have C37 := Lib.hid ((C35.out.below Bw6.out).but U7.out (by have := HX5.out; have := C35.out.1; omega)))
      | ((with_reducible refine atList ?_); refine wpList_getAll rfl 24 (.tmp 3) rfl X3 7 [.int .i64 p.cr, .int .i64 p.ch, .int .i64 p.ma, .int .i64 p.ct, .int .i64 p.fi, .string p.da, .int .u32 (p.wo : Nat)] _ _ C37.out rfl (tm_list p) rfl Try.underlying24 rfl tm_info ?_)
      | ((with_reducible refine atList ?_); refine wpList_getAll rfl 24 (.tmp 5) rfl X5 7 [.int .i64 p.cr, .int .i64 p.ch, .int .i64 p.ma, .int .i64 p.ct, .int .i64 p.fi, .string p.da, .int .u32 (p.wo : Nat)] _ _ C7.out rfl (tm_list p) rfl Try.underlying24 rfl tm_info ?_))
    go_ret
    exact ⟨by simp, But.under (bt B5.out Bw6.out) U7.out (by have := HX5.out; have := B5.out.size; omega)⟩

set_option maxRecDepth 100000 in
theorem lifted (os : Os) (started : os.Started) (H : Type) (enc : TypeId × Value → H) :
    ReturnsInHanded {} Try.checked os 4 .any (Rows.tmframeGetsSpec.pre6 enc Try.prog Try.f4 Rows.tmframeGetsRow.domain false) (Rows.tmframeGetsSpec.post enc Try.prog Try.f4 false true false false) := by
  refine returnsInHanded_of_change (C := Try.checked) own started (by kernel_rfl) Try.func4
    (ChangeSpec.witness6 (enc := enc) (C := Try.checked) false ⟨#[], #[.string { data := #[] }], []⟩ 8 (by kernel_rfl) (by kernel_rfl) (by kernel_rfl) (by kernel_rfl)) ?_
  intro W base args ds gs before hval0 hW _ _
  have hval : ∀ (j : Nat) t v, Try.f4.params[j]? = some t → args[j]? = some v → Value.okWide Try.prog W .any base t v := hval0
  have hW' := hW
  obtain ⟨p, q, hA0, hV, rfl, hfz, hnd⟩ := hW
  have hA : DataW.TrodAll enc Try.prog W 0 (fun _ => true) true Try.f4.params.toList args.toList ds p := hA0
  rw [Try.params4] at hA hval
  obtain ⟨v0, vs0, d0, ds0, p0, q0, hargs, rfl, rfl, h0, r0⟩ := trodAll_cons hA
  obtain ⟨rfl, rfl, rfl⟩ := trodAll_nil r0
  obtain rfl : args = #[v0] := by cases args; simp_all
  obtain ⟨rfl, rfl⟩ := trodVars_none hV
  obtain ⟨a0, rfl, rfl, rfl, w0⟩ := ChangeMaps.open_string Try.underlying9 (hval 0 9 v0 rfl rfl) h0
  clear hA0 hval0
  simp only [List.append_nil] at hW'
  refine (walk a0 w0 W).mono fun e W' ⟨he, hg⟩ => ?_
  subst he
  exact ⟨_, rfl, post_of_below (pa := []) (pv := []) hW' (fun _ _ _ => trodAll_cons_mk (shut_bool Try.underlying4 _) trodAll_mk0) (fun sp _ => (trodAll_cons_mk (ChangeMaps.shut_string Try.underlying9 w0) trodAll_mk0)) (fun _ _ => rfl) rfl
    hg (ok_one (by kernel_rfl) rfl (okWide_bool_mk Try.underlying4 _))⟩

theorem proved : Rows.TmframeGetsSaid :=
  OpenClaim.holds_of_wide 4 Try.f4 rfl rfl rfl rfl rfl rfl rfl ⟨rfl, rfl, rfl, rfl, rfl⟩ rfl rfl rfl rfl rfl (by kernel_rfl) Try.func4 (by kernel_rfl)
    (of_decide_eq_true (by kernel_rfl)) (by unfold Func.isWrapper; first | (rw [if_pos (by decide +kernel)]; kernel_rfl) | (rw [if_neg (by decide +kernel)]; exact ⟨rfl, rfl⟩))
    (fun os started H enc _ => lifted os started H enc)
#print axioms proved
end tmframeGets
end Go.Proofs.Ytgcjfiablcjfgaa
