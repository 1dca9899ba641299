/- BlockEncodes: of all strings (of at most 1000 bytes) and all depths Encode and Wrap return what the document says. No condition. -/
import Derived.Test.YtlpjhmafplljaaaGreatDoorBlkRWr
namespace Go.Proofs.YtlpjhmafplljaaaGreatDoor
open Go.ChangeShapes Go.WideShapes Go.ChangeAt Go.RowKit
set_option linter.unusedVariables false
namespace blockEncodes
theorem both_enc (s : ByteArray) (hs : s.size ≤ 1000) : ∃ (c : ByteArray) (x : Int), (∀ w, Calls Tryz.prog 7 #[.string s] w fun e w' => e = .returned (.tuple #[.string c, .int .i64 x]) ∧ Below w.heap.size w w') ∧
    (∀ w, Calls Tryz.prog 8 #[.string s] w fun e w' => e = .returned (.tuple #[.string c, .int .i64 x]) ∧ Below w.heap.size w w') := by
  by_cases g : 1 ≤ s.size ∧ s.size ≤ 223
  · exact ⟨_, _, fun w => encode_any s g.1 g.2 w, fun w => rencode_any s g.1 g.2 w⟩
  · refine ⟨⟨#[]⟩, 2, fun w => (encode_bad s g (by unfold maxLen; omega) w).mono fun e w' h => ?_, fun w => (rencode_bad s g (by omega) w).mono fun e w' h => ?_⟩
    · obtain ⟨rfl, rfl⟩ := h
      exact ⟨rfl, Below.refl _ _⟩
    · obtain ⟨rfl, rfl⟩ := h
      exact ⟨rfl, Below.refl _ _⟩
theorem both_wrap (s : ByteArray) (hs : s.size ≤ 1000) (z : Int) (hz : (Lit.int .i64 z).wf = true) : ∃ (c : ByteArray) (x : Int), (∀ w, Calls Tryz.prog 9 #[.string s, .int .i64 z] w fun e w' => e = .returned (.tuple #[.string c, .int .i64 x]) ∧ Below w.heap.size w w') ∧
    (∀ w, Calls Tryz.prog 10 #[.string s, .int .i64 z] w fun e w' => e = .returned (.tuple #[.string c, .int .i64 x]) ∧ Below w.heap.size w w') := by
  by_cases g : 1 ≤ z ∧ z ≤ 4 ∧ z ≤ s.size ∧ (s.size : Int) ≤ 223 * z
  · obtain ⟨m, rfl⟩ : ∃ m : Nat, z = (m : Int) := ⟨z.toNat, by omega⟩
    exact ⟨_, _, fun w => wrap_any s s.size m rfl (by omega) (by omega) (by omega) (by omega) w, fun w => rwrap_any s s.size m rfl (by omega) (by omega) (by omega) (by omega) w⟩
  · refine ⟨⟨#[]⟩, 2, fun w => (wrap_bad s z (by omega) g w).mono fun e w' h => ?_, fun w => (rwrap_bad s z hz (by omega) g w).mono fun e w' h => ?_⟩
    · obtain ⟨rfl, rfl⟩ := h
      exact ⟨rfl, Below.refl _ _⟩
    · obtain ⟨rfl, rfl⟩ := h
      exact ⟨rfl, Below.refl _ _⟩
set_option maxRecDepth 100000 in
set_option maxHeartbeats 1000000 in
theorem walk (s : ByteArray) (hs : s.size ≤ maxLen) (z : Int) (hz : (Lit.int .i64 z).wf = true) (w : World) :
    Calls Tryz.prog 3 #[.string s, .int .i64 z] w fun e w' => e = .returned (.bool true) ∧ Below w.heap.size w w' := by
  have AW := Lib.hid (fun w => bawake_any w)
  unfold maxLen at hs
  by_cases h1 : 1000 < s.size
  · go_enter Tryz.func3, Tryz.ntmps3
    go_wp2_with fail
    (with_reducible refine (AW.out _).mono ?_)
    rintro e w1 ⟨rfl, h1⟩
    have B1 := Lib.hid h1
    clear h1
    go_wp2_with fail
    go_ret
    exact ⟨rfl, B1.out⟩
  obtain ⟨c, x, hE, hF⟩ := both_enc s (by omega)
  obtain ⟨v, y, hW, hX⟩ := both_wrap s (by omega) z hz
  have HE := Lib.hid hE
  have HF := Lib.hid hF
  have HW := Lib.hid hW
  have HX := Lib.hid hX
  have cs := beq_same c
  have vs := beq_same v
  clear hE hF hW hX hz
  go_enter Tryz.func3, Tryz.ntmps3
  go_wp2_with fail
  (with_reducible refine (HE.out _).mono ?_)
  rintro e w1 ⟨rfl, h⟩
  have C1 := Lib.hid h
  clear h HE
  go_wp2_with fail
  (with_reducible refine (HF.out _).mono ?_)
  rintro e w2 ⟨rfl, h⟩
  have C2 := Lib.hid (bt C1.out h)
  clear h HF C1
  go_wp2_with fail
  (with_reducible refine (HW.out _).mono ?_)
  rintro e w3 ⟨rfl, h⟩
  have C3 := Lib.hid (bt C2.out h)
  clear h HW C2
  go_wp2_with fail
  (with_reducible refine (HX.out _).mono ?_)
  rintro e w4 ⟨rfl, h⟩
  have C4 := Lib.hid (bt C3.out h)
  clear h HX C3
  go_wp2_with fail
  (with_reducible refine (AW.out _).mono ?_)
  rintro e w5 ⟨rfl, h⟩
  have C5 := Lib.hid (bt C4.out h)
  clear h
  go_wp2_with fail
  go_ret
  exact ⟨rfl, C5.out⟩

set_option maxRecDepth 100000 in
theorem lifted (os : Os) (started : os.Started) (H : Type) (enc : TypeId × Value → H) :
    ReturnsInHanded {} Tryz.checked os 3 .any (fun w args => (Rows.blockEncodesSpec.pre enc Tryz.prog Tryz.f3 [] false w args ∧ laidMetH Tryz.prog laidL w) ∧ sizedMet enc Tryz.prog Tryz.f3 (OpenSpec.ofChange Rows.blockEncodesSpec) false w args)
      (Rows.blockEncodesSpec.post enc Tryz.prog Tryz.f3 false true false false) := by
  refine returnsInHanded_of_change_and (C := Tryz.checked) (X := fun w _ => laidMetH Tryz.prog laidL w) (fun _ _ _ hh h => h.of_heap hh) own started (by kernel_rfl) Tryz.func3
    (ChangeSpec.witness_shaped (enc := enc) (C := Tryz.checked) (os := os) (X := fun w _ => laidMetH Tryz.prog laidL w) false (World.laidAll Tryz.prog os laidL) #[.string { data := #[] }, .int .i64 0] 8 (World.laidAll_os _ _ _)
      (World.shaped_of_ZipB (by kernel_rfl) (by kernel_rfl)) (by kernel_rfl) (by kernel_rfl) (by kernel_rfl) (laid_met os _)) ?_
  intro W base args ds gs before hval0 hW _ _ _ _
  have hval : ∀ (j : Nat) t v, Tryz.f3.params[j]? = some t → args[j]? = some v → Value.okWide Tryz.prog W .any base t v := hval0
  have hW' := hW
  obtain ⟨p, q, hA0, hV, rfl, hfz, hnd⟩ := hW
  have hA : DataW.TrodAll enc Tryz.prog W 0 (fun _ => true) true Tryz.f3.params.toList args.toList ds p := hA0
  rw [Tryz.params3] at hA hval
  obtain ⟨v0, vs0, d0, ds0, p0, q0, hargs, rfl, rfl, h0, r0⟩ := trodAll_cons hA
  obtain ⟨v1, vs1, d1, ds1, p1, q1, rfl, rfl, rfl, h1, r1⟩ := trodAll_cons r0
  obtain ⟨rfl, rfl, rfl⟩ := trodAll_nil r1
  obtain rfl : args = #[v0, v1] := by cases args; simp_all
  obtain ⟨rfl, rfl⟩ := trodVars_none hV
  obtain ⟨a0, rfl, rfl, rfl, w0⟩ := ChangeMaps.open_string Tryz.underlying9 (hval 0 9 v0 rfl rfl) h0
  obtain ⟨a1, rfl, rfl, rfl, w1⟩ := open_int Tryz.underlying3 (hval 1 3 v1 rfl rfl) h1
  clear hA0 hval0
  simp only [List.append_nil] at hW'
  refine (walk a0 w0 a1 w1 W).mono fun e W' ⟨he, hg⟩ => ?_
  subst he
  exact ⟨_, rfl, post_of_below (pa := []) (pv := []) hW' (fun _ _ _ => trodAll_cons_mk (shut_bool Tryz.underlying4 _) trodAll_mk0) (fun sp _ => (trodAll_cons_mk (ChangeMaps.shut_string Tryz.underlying9 w0) (trodAll_cons_mk (shut_int Tryz.underlying3 w1) trodAll_mk0))) (fun _ _ => rfl) rfl
    hg (ok_one (by kernel_rfl) rfl (okWide_bool_mk Tryz.underlying4 _))⟩

theorem over : Rows.BlockEncodesSaid :=
  OpenClaim.holds_of_wide 3 Tryz.f3 rfl rfl rfl rfl rfl rfl rfl ⟨rfl, rfl, rfl, rfl, rfl⟩ rfl rfl rfl rfl rfl (by kernel_rfl) Tryz.func3 (by kernel_rfl)
    (of_decide_eq_true (by kernel_rfl)) (by unfold Func.isWrapper; first | (rw [if_pos (by decide +kernel)]; kernel_rfl) | (rw [if_neg (by decide +kernel)]; exact ⟨rfl, rfl⟩))
    (fun os started H enc _ => lifted os started H enc)

theorem proved : Rows.BlockEncodesCardSaid :=
  Claim7.holds_tied_plain_at .later [] [.data, .pinned] true Rows.blockEncodesCard.stood.harness false
    over (fun _ h => by cases h) (by kernel_rfl) (fun _ h => by cases h) blockEncodes_row_tie rfl ⟨rfl, rfl⟩ (by kernel_rfl) rfl
    (fun f fn hf hfn => by
      obtain rfl : f = 3 := Option.some.inj ((show Tryz.prog.funcNamed "perigee/perigeelaw05.BlockEncodes" = some 3 by kernel_rfl).symm.trans hf) |>.symm
      obtain rfl : fn = Tryz.f3 := (Option.some.inj (Tryz.func3.symm.trans hfn)).symm
      exact ⟨by kernel_rfl, fun j t ht => by
        have hall : (Tryz.f3.params.toList.all fun u => !Tryz.prog.wantsStandIn u) = true := by kernel_rfl
        have hm : t ∈ Tryz.f3.params.toList := by simpa using Array.mem_of_getElem? ht
        exact (show Tryz.prog.wantsStandIn t = false by simpa using List.all_eq_true.1 hall t hm)⟩)
    (by kernel_rfl)
#print axioms proved
end blockEncodes
