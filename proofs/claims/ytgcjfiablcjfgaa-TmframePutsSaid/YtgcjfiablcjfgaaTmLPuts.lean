/- TmLPuts -/
import Derived.Test.YtgcjfiablcjfgaaTpShown
import Derived.Test.YtgcjfiablcjfgaaTmArg
import Derived.ProofKit
/- TmframePuts: Put returns what the document says. No condition. -/
namespace Go.Proofs.Ytgcjfiablcjfgaa
open Go.ChangeShapes Go.WideShapes Go.ChangeAt Go.RowKit
set_option linter.unusedVariables false

namespace tmframePuts
set_option maxRecDepth 100000 in
set_option maxHeartbeats 4000000 in
theorem walk (p : Tmf) (hp : TmWf p) (w : World) : Calls Try.prog 3 #[tmVal p] w fun e w' => e = .returned (.bool true) ∧ Below w.heap.size w w' := by
  have hml := hp.1
  have hwo := hp.2
  have SH := Lib.hid (fun w => tshown_any w)
  obtain ⟨n, hn⟩ : ∃ n, p.da.size = n := ⟨_, rfl⟩
  have hs : n ≤ 9223372036854775807 := by rw [← hn]; unfold maxLen at hml; omega
  clear hp
  by_cases hl : 5000 < n
  · have t1 : decide (5000 < (n : Int)) = true := decide_eq_true (by omega)
    have t1n : decide (5000 < n) = true := decide_eq_true hl
    clear hl
    go_enter Try.func3, Try.ntmps3
    go_wp2_with ((with_reducible refine atList ?_); refine wpList_new rfl (.box 24 (.tmp 0)) rfl (some 1) rfl #[.int .i64 p.cr, .int .i64 p.ch, .int .i64 p.ma, .int .i64 p.ct, .int .i64 p.fi, .string p.da, .int .u32 (p.wo : Nat)] 24 (fun X => .pointer (some ⟨X, 0, none⟩)) 7 (tmCel p) (tm_cells p) (box_tm rfl rfl) ?_; intro X w0 HX Sw0 CX Bw0)
    (with_reducible refine (SH.out _).mono ?_)
    rintro e w1 ⟨rfl, h1⟩
    have cX : w1.cell? ⟨X, 5, none⟩ = some (.string p.da) := (CX.out.below h1).cell (j := 5) (by omega)
    have B1 := Lib.hid (bt Bw0.out h1)
    clear h1
    go_wp2_with fail
    go_ret
    exact ⟨rfl, B1.out⟩
  · have t1 : decide (5000 < (n : Int)) = false := decide_eq_false (by omega)
    have t1n : decide (5000 < n) = false := decide_eq_false hl
    have U1 := Lib.hid (fun w => tput_any p (by omega) hwo w)
    have U2 := Lib.hid (fun w => rtput_any p (by omega) hwo w)
    obtain ⟨sv, cd, hv⟩ : ∃ (sv : ByteArray) (cd : Int), (if Tm.Ok p then Value.tuple #[.string (bs (Tm.enc p)), .int .i64 0] else .tuple #[.string ⟨#[]⟩, .int .i64 2]) = .tuple #[.string sv, .int .i64 cd] := by
      by_cases g : Tm.Ok p
      · rw [if_pos g]; exact ⟨_, _, rfl⟩
      · rw [if_neg g]; exact ⟨_, _, rfl⟩
    rw [hv] at U1 U2
    have z1 : (sv == sv) = true := beq_same sv
    have z2 : (sv.toList == sv.toList) = true := by simp
    clear hl hv hml
    go_enter Try.func3, Try.ntmps3
    go_wp2_with ((with_reducible refine atList ?_); refine wpList_new rfl (.box 24 (.tmp 0)) rfl (some 1) rfl #[.int .i64 p.cr, .int .i64 p.ch, .int .i64 p.ma, .int .i64 p.ct, .int .i64 p.fi, .string p.da, .int .u32 (p.wo : Nat)] 24 (fun X => .pointer (some ⟨X, 0, none⟩)) 7 (tmCel p) (tm_cells p) (box_tm rfl rfl) ?_; intro X w0 HX Sw0 CX Bw0)
    (with_reducible refine (SH.out _).mono ?_)
    rintro e w1 ⟨rfl, h1⟩
    have CX1 := Lib.hid (CX.out.below h1)
    have cX : w1.cell? ⟨X, 5, none⟩ = some (.string p.da) := CX1.out.cell (j := 5) (by omega)
    have B1 := Lib.hid (bt Bw0.out h1)
    clear h1
    go_wp2_with ((with_reducible refine atList ?_); refine wpList_getAll rfl 24 (.tmp 1) rfl X 7 [.int .i64 p.cr, .int .i64 p.ch, .int .i64 p.ma, .int .i64 p.ct, .int .i64 p.fi, .string p.da, .int .u32 (p.wo : Nat)] _ _ CX1.out rfl (tm_list p) rfl Try.underlying24 rfl tm_info ?_)
    (refine (U1.out _).mono ?_)
    rintro e w2 ⟨rfl, h2⟩
    have B2 := Lib.hid (bt B1.out h2)
    have CX2 := Lib.hid (CX1.out.below h2)
    clear h2 cX
    go_wp2_with ((with_reducible refine atList ?_); refine wpList_getAll rfl 24 (.tmp 1) rfl X 7 [.int .i64 p.cr, .int .i64 p.ch, .int .i64 p.ma, .int .i64 p.ct, .int .i64 p.fi, .string p.da, .int .u32 (p.wo : Nat)] _ _ CX2.out rfl (tm_list p) rfl Try.underlying24 rfl tm_info ?_)
    (refine (U2.out _).mono ?_)
    rintro e w3 ⟨rfl, h3⟩
    have B3 := Lib.hid (bt B2.out h3)
    clear h3
    go_wp2_with fail
    go_ret
    exact ⟨by simp, B3.out⟩

set_option maxRecDepth 100000 in
theorem lifted (os : Os) (started : os.Started) (H : Type) (enc : TypeId × Value → H) :
    ReturnsInHanded {} Try.checked os 3 .any (Rows.tmframePutsSpec.pre6 enc Try.prog Try.f3 Rows.tmframePutsRow.domain false) (Rows.tmframePutsSpec.post enc Try.prog Try.f3 false true false false) := by
  refine returnsInHanded_of_change (C := Try.checked) own started (by kernel_rfl) Try.func3
    (ChangeSpec.witness6 (enc := enc) (C := Try.checked) false ⟨#[], #[.agg #[.int .i64 0, .int .i64 0, .int .i64 0, .int .i64 0, .int .i64 0, .string { data := #[] }, .int .u32 0]], []⟩ 8 (by kernel_rfl) (by kernel_rfl) (by kernel_rfl) (by kernel_rfl)) ?_
  intro W base args ds gs before hval0 hW _ _
  have hval : ∀ (j : Nat) t v, Try.f3.params[j]? = some t → args[j]? = some v → Value.okWide Try.prog W .any base t v := hval0
  have hW' := hW
  obtain ⟨p, q, hA0, hV, rfl, hfz, hnd⟩ := hW
  have hA : DataW.TrodAll enc Try.prog W 0 (fun _ => true) true Try.f3.params.toList args.toList ds p := hA0
  rw [Try.params3] at hA hval
  obtain ⟨v0, vs0, d0, ds0, p0, q0, hargs, rfl, rfl, h0, r0⟩ := trodAll_cons hA
  obtain ⟨rfl, rfl, rfl⟩ := trodAll_nil r0
  obtain rfl : args = #[v0] := by cases args; simp_all
  obtain ⟨rfl, rfl⟩ := trodVars_none hV
  obtain ⟨a0, rfl, w0, shut0⟩ := frame_arg (hval 0 24 v0 rfl rfl) h0
  clear hA0 hval0
  simp only [List.append_nil] at hW'
  refine (walk a0 w0 W).mono fun e W' ⟨he, hg⟩ => ?_
  subst he
  exact ⟨_, rfl, post_of_below (pa := (p0 ++ [])) (pv := []) hW' (fun _ _ _ => trodAll_cons_mk (shut_bool Try.underlying4 _) trodAll_mk0) (fun sp hsp => (trodAll_cons_mk (shut0 W' hg sp (fun q hq => hsp q (by simp [hq]))) trodAll_mk0)) (fun _ _ => rfl) (by simp)
    hg (ok_one (by kernel_rfl) rfl (okWide_bool_mk Try.underlying4 _))⟩

theorem proved : Rows.TmframePutsSaid :=
  OpenClaim.holds_of_wide 3 Try.f3 rfl rfl rfl rfl rfl rfl rfl ⟨rfl, rfl, rfl, rfl, rfl⟩ rfl rfl rfl rfl rfl (by kernel_rfl) Try.func3 (by kernel_rfl)
    (of_decide_eq_true (by kernel_rfl)) (by unfold Func.isWrapper; first | (rw [if_pos (by decide +kernel)]; kernel_rfl) | (rw [if_neg (by decide +kernel)]; exact ⟨rfl, rfl⟩))
    (fun os started H enc _ => lifted os started H enc)
#print axioms proved
end tmframePuts
end Go.Proofs.Ytgcjfiablcjfgaa
