/- FieldsPacks: of at most 500 widths and values and strings of at most 5000 bytes the program's Pack and Unpack return what the document says, and leave their arguments, and the places behind a list, as they are. No condition. -/
import Derived.Test.YtgfjmolihobaeaaFldPacks
namespace Go.Proofs.Ytgfjmolihobaeaa
open Go.ChangeShapes Go.WideShapes Go.ChangeAt Go.RowKit
set_option linter.unusedVariables false
namespace fieldsPacks
theorem nil_cap {H : Type} {enc : TypeId × Value → H} {P : Program} {k : IntKind} {t e : TypeId} {w : World} {l c : Nat} {d : DataW H} {p : List MemPlace} (ht : P.underlying t = some (.slice e)) (he : P.underlying e = some (.int k)) (hc : P.cellsOf e = 1)
    (hd : DataW.Trod enc P w 0 (fun _ => true) true t (.slice none l c) d p) : c = 0 := by
  obtain ⟨fuel, hf⟩ := hd
  rcases ChangeShapes.open_ints ht he hc hf with ⟨h1, _⟩ | ⟨a, len, cap, zs, h1, _⟩
  · simp [Value.cells] at h1
    exact h1.2
  · simp [Value.cells] at h1
theorem cells_int : Try.prog.cellsOf 3 = 1 := by kernel_rfl
theorem cells_u64 : Try.prog.cellsOf 23 = 1 := by kernel_rfl
theorem walk (a1 : Option Addr) (cap1 : Nat) (zs : List Int) (hc1 : zs.length ≤ cap1) (hm1 : cap1 ≤ maxLen) (wz : ∀ n ∈ zs, (Lit.int .i64 n).wf = true) (a2 : Option Addr) (cap2 : Nat) (us : List Int) (hc2 : us.length ≤ cap2) (hm2 : cap2 ≤ maxLen) (hn2 : a2 = none → cap2 = 0) (wu : ∀ n ∈ us, (Lit.int .u64 n).wf = true) (s : ByteArray) (hs : s.size ≤ maxLen) (w : World)
    (r1 : Reads .i64 w a1 zs) (r2 : Reads .u64 w a2 us) :
    Calls Try.prog 5 #[.slice a1 zs.length cap1, .slice a2 us.length cap2, .string s] w fun e w' => e = .returned (.bool true) ∧ Below w.heap.size w w' := by
  unfold maxLen at hm1 hm2 hs
  have AW := Lib.hid (fun w => awake_any w)
  by_cases h1 : 500 < zs.length
  · obtain ⟨n, hn⟩ : ∃ n, zs.length = n := ⟨_, rfl⟩
    obtain ⟨m, hm⟩ : ∃ n, us.length = n := ⟨_, rfl⟩
    rw [hn] at h1 hc1 ⊢
    rw [hm] at hc2 ⊢
    clear hn hm r1 r2 wz wu
    go_enter Try.func5, Try.ntmps5
    go_wp2_with fail
    (with_reducible refine (AW.out _).mono ?_)
    rintro e w1 ⟨rfl, h1⟩
    go_wp2_with fail
    go_ret
    exact ⟨rfl, h1⟩
  · by_cases h2 : 500 < us.length
    · obtain ⟨n, hn⟩ : ∃ n, zs.length = n := ⟨_, rfl⟩
      obtain ⟨m, hm⟩ : ∃ n, us.length = n := ⟨_, rfl⟩
      rw [hn] at h1 hc1 ⊢
      rw [hm] at h2 hc2 ⊢
      have h1' : decide ((500 : Int) < (n : Int)) = false := by simp; omega
      clear hn hm r1 r2 wz wu
      go_enter Try.func5, Try.ntmps5
      go_wp2_with fail
      (with_reducible refine (AW.out _).mono ?_)
      rintro e w1 ⟨rfl, h1⟩
      go_wp2_with fail
      go_ret
      exact ⟨rfl, h1⟩
    · by_cases h3 : 5000 < s.size
      · obtain ⟨n, hn⟩ : ∃ n, zs.length = n := ⟨_, rfl⟩
        obtain ⟨m, hm⟩ : ∃ n, us.length = n := ⟨_, rfl⟩
        rw [hn] at h1 hc1 ⊢
        rw [hm] at h2 hc2 ⊢
        have h1' : decide ((500 : Int) < (n : Int)) = false := by simp; omega
        have h2' : decide ((500 : Int) < (m : Int)) = false := by simp; omega
        clear hn hm r1 r2 wz wu
        go_enter Try.func5, Try.ntmps5
        go_wp2_with fail
        (with_reducible refine (AW.out _).mono ?_)
        rintro e w1 ⟨rfl, h1⟩
        go_wp2_with fail
        go_ret
        exact ⟨rfl, h1⟩
      · obtain ⟨vs, hvs⟩ : ∃ vs : List Nat, us.map Int.toNat = vs := ⟨_, rfl⟩
        have vl : vs.length = us.length := by rw [← hvs, List.length_map]
        have vm : vs.map Int.ofNat = us := by
          rw [← hvs]
          apply List.ext_getElem
          · simp
          · intro i a b
            have := bounds_u64 (wu us[i] (List.getElem_mem b))
            simp
            omega
        have vb : ∀ j, j < vs.length → vs.getD j 0 < 18446744073709551616 := fun j hj => by
          have hj' : j < us.length := by rw [← vl]; exact hj
          have := bounds_u64 (wu us[j] (List.getElem_mem hj'))
          rw [← hvs]
          simp [List.getD, hj']
          omega
        rw [← vm] at r2
        rw [← vl] at hc2 ⊢
        cases a1 with
        | none =>
          have zn : zs.length = 0 := by
            rcases r1 with h | ⟨b, o, h, _⟩
            · rw [h]; rfl
            · cases h
          by_cases m0 : vs.length = 0
          · exact walk0 cap1 zs zs.length rfl hc1 (by omega) a2 cap2 vs vs.length rfl hc2 hn2 vb s (by omega) (by omega) (by omega) w r1 r2 m0
          · exact walk1 cap1 zs zs.length rfl hc1 (by omega) a2 cap2 vs vs.length rfl hc2 hn2 vb s (by omega) (by omega) (by omega) w r1 r2 (by omega)
        | some a1 =>
          by_cases m0 : vs.length = 0
          · exact walk2 a1 cap1 zs zs.length rfl hc1 (by omega) a2 cap2 vs vs.length rfl hc2 hn2 vb s (by omega) (by omega) (by omega) w r1 r2 m0
          · exact walk3 a1 cap1 zs zs.length rfl hc1 (by omega) a2 cap2 vs vs.length rfl hc2 hn2 vb s (by omega) (by omega) (by omega) w r1 r2 (by omega)

set_option maxRecDepth 100000 in
theorem lifted (os : Os) (started : os.Started) (H : Type) (enc : TypeId × Value → H) :
    ReturnsInHanded {} Try.checked os 5 .any (Rows.fieldsPacksSpec.pre6 enc Try.prog Try.f5 Rows.fieldsPacksRow.domain false) (Rows.fieldsPacksSpec.post enc Try.prog Try.f5 false true false false) := by
  refine returnsInHanded_of_change (C := Try.checked) own started (by kernel_rfl) Try.func5
    (ChangeSpec.witness6 (enc := enc) (C := Try.checked) false ⟨#[], #[.slice none 0 0, .slice none 0 0, .string { data := #[] }], []⟩ 8 (by kernel_rfl) (by kernel_rfl) (by kernel_rfl) (by kernel_rfl)) ?_
  intro W base args ds gs before hval0 hW _ _
  have hval : ∀ (j : Nat) t v, Try.f5.params[j]? = some t → args[j]? = some v → Value.okWide Try.prog W .any base t v := hval0
  have hW' := hW
  obtain ⟨p, q, hA0, hV, rfl, hfz, hnd⟩ := hW
  have hA : DataW.TrodAll enc Try.prog W 0 (fun _ => true) true Try.f5.params.toList args.toList ds p := hA0
  rw [Try.params5] at hA hval
  obtain ⟨v0, vs0, d0, ds0, p0, q0, hargs, rfl, rfl, h0, r0⟩ := trodAll_cons hA
  obtain ⟨v1, vs1, d1, ds1, p1, q1, rfl, rfl, rfl, h1, r1⟩ := trodAll_cons r0
  obtain ⟨v2, vs2, d2, ds2, p2, q2, rfl, rfl, rfl, h2, r2⟩ := trodAll_cons r1
  obtain ⟨rfl, rfl, rfl⟩ := trodAll_nil r2
  obtain rfl : args = #[v0, v1, v2] := by cases args; simp_all
  obtain ⟨rfl, rfl⟩ := trodVars_none hV
  obtain ⟨x0, y0, z0, e0⟩ := okWide_slice Try.underlying36 (hval 0 36 v0 rfl rfl)
  obtain ⟨x1, y1, z1, e1⟩ := okWide_slice Try.underlying37 (hval 1 37 v1 rfl rfl)
  obtain ⟨zs, S0⟩ := slice_arg Try.underlying36 Try.underlying3 cells_int (by rw [e0]; rfl) h0
  obtain ⟨us, S1⟩ := slice_arg Try.underlying37 Try.underlying23 cells_u64 (by rw [e1]; rfl) h1
  obtain ⟨s, rfl, rfl, rfl, ws⟩ := ChangeMaps.open_string Try.underlying9 (hval 2 9 v2 rfl rfl) h2
  clear e0 e1
  obtain ⟨⟨ao0, cap0, rfl, l0, m0, R0⟩, w0, shut0⟩ := S0
  obtain ⟨⟨ao1, cap1, rfl, l1, m1, R1⟩, w1, shut1⟩ := S1
  clear hA0 hval0
  simp only [List.append_nil] at hW'
  have hn2 : ao1 = none → cap1 = 0 := fun e => by
    subst e
    exact nil_cap Try.underlying37 Try.underlying23 cells_u64 h1
  refine (walk ao0 cap0 zs l0 m0 w0 ao1 cap1 us l1 m1 hn2 w1 s ws W R0 R1).mono fun e W' ⟨he, hg⟩ => ?_
  subst he
  exact ⟨_, rfl, post_of_below (pa := p0 ++ (p1 ++ [])) (pv := []) hW' (fun _ _ _ => trodAll_cons_mk (shut_bool Try.underlying4 _) trodAll_mk0)
    (fun sp hsp => trodAll_cons_mk (shut0 W' hg sp (fun q hq => hsp q (by simp [hq]))) (trodAll_cons_mk (shut1 W' hg sp (fun q hq => hsp q (by simp [hq]))) (trodAll_cons_mk (ChangeMaps.shut_string Try.underlying9 ws) trodAll_mk0))) (fun _ _ => rfl) (by simp)
    hg (ok_one (by kernel_rfl) rfl (okWide_bool_mk Try.underlying4 _))⟩

theorem proved : Rows.FieldsPacksSaid :=
  OpenClaim.holds_of_wide 5 Try.f5 rfl rfl rfl rfl rfl rfl rfl ⟨rfl, rfl, rfl, rfl, rfl⟩ rfl rfl rfl rfl rfl (by kernel_rfl) Try.func5 (by kernel_rfl)
    (of_decide_eq_true (by kernel_rfl)) (by unfold Func.isWrapper; first | (rw [if_pos (by decide +kernel)]; kernel_rfl) | (rw [if_neg (by decide +kernel)]; exact ⟨rfl, rfl⟩))
    (fun os started H enc _ => lifted os started H enc)
#print axioms proved
end fieldsPacks
end Go.Proofs.Ytgfjmolihobaeaa
