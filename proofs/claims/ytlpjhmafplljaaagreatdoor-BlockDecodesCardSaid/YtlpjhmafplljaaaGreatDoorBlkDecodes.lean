/- BlockDecodes: of all strings and all lists of erased places (of at most 300 each) Decode returns what the document says, and changes no list. No condition. -/
import Derived.Test.YtlpjhmafplljaaaGreatDoorPkQ
import Derived.Test.YtlpjhmafplljaaaGreatDoorPkE
namespace Go.Proofs.YtlpjhmafplljaaaGreatDoor
open Go.ChangeShapes Go.WideShapes Go.ChangeAt Go.RowKit
set_option linter.unusedVariables false
theorem cells_int : Tryz.prog.cellsOf 3 = 1 := by kernel_rfl
set_option maxRecDepth 100000 in
set_option maxHeartbeats 2000000 in
theorem rdecode_bad (b : ByteArray) (a : Option Addr) (cap m L : Nat) (zs : List Int) (hb : b.size = L) (hL : L ≤ 400000) (hm : zs.length = m) (m2 : m ≤ 1000) (hz : ¬ (9 ≤ L ∧ L ≤ 231 ∧ Within zs L)) (w : World) (R : Ints w a zs) :
    Calls Tryz.prog 13 #[.string b, .slice a m cap] w fun e w' => e = .returned (.tuple #[.string ⟨#[]⟩, .int .i64 0, .int .i64 2]) ∧ Below w.heap.size w w' := by
  by_cases g1 : L ≤ 8
  · clear hz
    have BR := Lib.hid (Below.refl w.heap.size w)
    have g1' : (L : Int) ≤ 8 := by omega
    go_enter Tryz.func13, Tryz.ntmps13
    go_wp2_with fail
    go_ret3
    exact ⟨rfl, BR.out⟩
  by_cases g2 : 231 < L
  · clear hz
    have BR := Lib.hid (Below.refl w.heap.size w)
    have g1' : ¬ (L : Int) ≤ 8 := by omega
    have g2' : (231 : Int) < (L : Int) := by omega
    go_enter Tryz.func13, Tryz.ntmps13
    go_wp2_with fail
    go_ret3
    exact ⟨rfl, BR.out⟩
  have g3 : ¬ Within zs L := fun q => hz ⟨by omega, by omega, q⟩
  have HBS := Lib.hid hb
  have HM := Lib.hid hm
  have HZ := Lib.hid (show ¬ ∀ k, k < m → 0 ≤ zs.getD k 0 ∧ zs.getD k 0 < (L : Int) from fun q => g3 (fun p hp => by
    obtain ⟨k, hk, e⟩ := List.getElem_of_mem hp
    have := q k (by omega)
    rwa [getD_at zs hk, e] at this))
  have HR := Lib.hid R
  have NB : ¬ (L : Int) ≤ 8 := by omega
  have NB2 : ¬ (231 : Int) < (L : Int) := by omega
  clear hm hz R g3
  go_enter Tryz.func13, Tryz.ntmps13
  go_wp2_with fail
  go_loopw [7, 8] (fun o u wr => ∃ (k : Nat) (f : List Nat), k ≤ m ∧ u = .int .i64 (k : Nat) ∧ (∀ j, j < k → 0 ≤ zs.getD j 0 ∧ zs.getD j 0 < (L : Int)) ∧ f.length ≤ k ∧ wr.ownsRow w.heap.size 3 1 o f.length (plv f) ∧ Below w.heap.size w wr) (fun _ u _ => m - (intOf u).toNat)
  case atStart => exact ⟨0, [], Nat.zero_le _, rfl, fun j hj => absurd hj (Nat.not_lt_zero _), Nat.le_refl _, World.ownsRow_nil _ _ _ _, Below.refl _ _⟩
  case round =>
    obtain ⟨k, f, hk, rfl, hme, hlen, hown, hB⟩ := hrel
    obtain ⟨n, hn⟩ : ∃ n, f.length = n := ⟨_, rfl⟩
    rw [hn] at hown hlen
    obtain ⟨af, cf, rfl, hG⟩ := own_got hn hown
    have HN := Lib.hid hn
    have HO := Lib.hid hown
    have HG := Lib.hid hG
    have HB := Lib.hid hB
    have HME := Lib.hid hme
    clear hn hown hG hB hme
    rename World => w1
    by_cases hlt : k < m
    · obtain ⟨zb, zo, rfl, zl, zc⟩ := HR.out.cell (by rw [HM.out]; omega)
      have ck := (HB.out.cell (p := ⟨zb, zo + k, none⟩) zl).trans (zc k (by rw [HM.out]; exact hlt))
      obtain ⟨z, hzz⟩ : ∃ z, zs.getD k 0 = z := ⟨_, rfl⟩
      have HZZ := Lib.hid hzz
      rw [hzz] at ck
      clear zc hzz
      by_cases q0 : z < 0
      · go_wp2_with fail
        go_ret3
        exact ⟨rfl, HB.out⟩
      · by_cases q1 : (L : Int) ≤ z
        · go_wp2_with fail
          go_ret3
          exact ⟨rfl, HB.out⟩
        · obtain ⟨p, rfl⟩ : ∃ p : Nat, z = (p : Int) := ⟨z.toNat, by omega⟩
          have ME := Lib.hid (show ∀ j, j < k + 1 → 0 ≤ zs.getD j 0 ∧ zs.getD j 0 < (L : Int) from fun j hj => by
            by_cases e : j = k
            · subst e
              rw [HZZ.out]
              exact ⟨by omega, by omega⟩
            · exact HME.out j (by omega))
          have IN := Lib.hid (inside_any af cf (il f) n (by rw [il_len]; exact HN.out) (by omega) (p : Int) w1 HG.out.ints)
          have p0 : decide ((p : Int) < 0) = false := by simp
          clear q0
          by_cases hpf : p ∈ f
          · rw [decide_eq_true ((il_mem f p).2 hpf)] at IN
            clear hpf
            go_wp2_with fail
            (with_reducible refine IN.out.mono ?_)
            rintro e w' ⟨rfl, rfl⟩
            go_wp2_with fail
            go_roundw
            case rel => exact ⟨k + 1, f, by omega, by go_num, ME.out, by rw [HN.out]; omega, by rw [HN.out]; exact HO.out, HB.out⟩
            case measure => simp [intOf]; omega
          · rw [decide_eq_false (fun h => hpf ((il_mem f p).1 h))] at IN
            have LN := Lib.hid (show (f ++ [p]).length = n + 1 by rw [List.length_append, HN.out]; rfl)
            have PL := Lib.hid (plv_add f p)
            obtain ⟨i0, hi0, hz0, hz1, hz2⟩ := info_parts info_i64
            have B1 := Lib.hid (HB.out.alloc HB.out.size (.cells #[.int .i64 (p : Nat)] 3))
            clear hpf
            go_wp2_with fail
            (with_reducible refine IN.out.mono ?_)
            rintro e w' ⟨rfl, rfl⟩
            go_wp2_with (at_builtin; refine wpList_append_own _ rfl _ _ 28 rfl w.heap.size 3 i0 (.int .i64 0) 1 8 Tryz.underlying28 hi0 hz0 hz1 hz2 rfl (by decide) _ _ _ rfl (HO.out.alloc _) ⟨w1.heap.size, 0, none⟩ 1 1 [.int .i64 (p : Nat)] rfl rfl cell_one (by simp [Value.oneCell']) (by unfold maxLen; omega) (by omega) B1.out.size ?_; intro v' w2 hown2 hgrow _; obtain ⟨g', cap', rfl⟩ := ownsRow_succ hown2; have HO2 := Lib.hid hown2; have BW2 := Lib.hid (B1.out.grown hgrow B1.out.size (fun k e => own_block_ge HO.out e)); clear hown2 hgrow)
            go_roundw
            case rel => exact ⟨k + 1, f ++ [p], by omega, by go_num, ME.out, by rw [LN.out]; omega, by rw [LN.out, PL.out]; exact HO2.out, BW2.out⟩
            case measure => simp [intOf]; omega
    · obtain rfl : k = m := by omega
      exact absurd HME.out HZ.out
/-- A list lent out, and compared afterwards. -/
theorem lend_all (a : Option Addr) (cap : Nat) (zs : List Int) (n : Nat) (hn : zs.length = n) (hl : n ≤ 500) (hc : n ≤ cap) (w : World) (R : Ints w a zs) :
    Calls Tryz.prog 11 #[.slice a n cap] w fun e w' => ∃ oa oc, e = .returned (.slice oa n oc) ∧ Ints w' oa zs ∧
      (∀ w2, Below w'.heap.size w' w2 → Calls Tryz.prog 14 #[.slice oa n oc, .slice a n cap] w2 fun e w3 => e = .returned (.bool true) ∧ Below w2.heap.size w2 w3) ∧ Below w.heap.size w w' := by
  cases a with
  | none =>
    have : zs = [] := by
      rcases R with h | ⟨b, off, h, _⟩
      · exact h
      · cases h
    subst this
    subst hn
    exact (lend_nil cap w).mono fun e w' h => by
      obtain ⟨rfl, rfl⟩ := h
      exact ⟨none, 0, rfl, .inl rfl, fun w2 _ => kept_nil 0 cap w2, Below.refl _ _⟩
  | some a =>
    exact (lend_some a cap zs n hn hl hc w R).mono fun e w' h => by
      obtain ⟨g, rfl, hL, hB⟩ := h
      exact ⟨some ⟨g, 0, none⟩, n + 1, rfl, hL.reads, fun w2 hb => kept_some g a cap zs n hn hl w2 (hL.below hb) ((R.below hB).below hb), hB⟩
namespace blockDecodes
/-- Whatever both return. -/
def Both (s : ByteArray) (oa a : Option Addr) (oc cap n : Nat) (w0 : World) : Prop :=
  ∃ (o : ByteArray) (k x : Int), (∀ w, Below w0.heap.size w0 w → Calls Tryz.prog 12 #[.string s, .slice oa n oc] w fun e w' => e = .returned (.tuple #[.string o, .int .i64 k, .int .i64 x]) ∧ Below w.heap.size w w') ∧
    (∀ w, Below w0.heap.size w0 w → Calls Tryz.prog 13 #[.string s, .slice a n cap] w fun e w' => e = .returned (.tuple #[.string o, .int .i64 k, .int .i64 x]) ∧ Below w.heap.size w w')
theorem dec_val (s : List UInt8) (f : List Nat) : ∃ o k x, Blk.Dec s f o k x := by
  by_cases h : ∃ c, Blk.Near s f c
  · obtain ⟨c, hc⟩ := h
    exact ⟨_, _, _, .inl ⟨c, hc, rfl, rfl, rfl⟩⟩
  · exact ⟨_, _, _, .inr ⟨fun c hc => h ⟨c, hc⟩, rfl, rfl, rfl⟩⟩
theorem both (s : ByteArray) (oa a : Option Addr) (oc cap n L : Nat) (zs : List Int) (hs : s.size = L) (hL : L ≤ 400000) (hn : zs.length = n) (n2 : n ≤ 300) (w0 : World) (R0 : Ints w0 oa zs) (R1 : Ints w0 a zs) : Both s oa a oc cap n w0 := by
  by_cases g : 9 ≤ L ∧ L ≤ 231 ∧ Within zs L
  · obtain ⟨g1, g2, g3⟩ := g
    have hE : ∀ j, j < L → (decide ((j : Int) ∈ zs) = true ↔ (j : Int) ∈ zs) := fun j _ => decide_eq_true_iff
    obtain ⟨o, k, x, D⟩ := dec_val s.data.toList (Blk.ers (fun j => decide ((j : Int) ∈ zs)) L)
    refine ⟨⟨o.toArray⟩, k, x, fun w hb => ?_, fun w hb => ?_⟩
    · refine (decode_any s oa oc n L zs hs g1 g2 hn (by omega) g3 w (R0.below hb)).mono fun e w' h => ?_
      obtain ⟨er, her, o', k', x', rfl, D', hB⟩ := h
      have e1 : Blk.ers er L = Blk.ers (fun j => decide ((j : Int) ∈ zs)) L := List.filter_congr (fun i hi => by
        rw [Bool.eq_iff_iff, her i (List.mem_range.1 hi), decide_eq_true_iff])
      rw [e1] at D'
      obtain ⟨rfl, rfl, rfl⟩ := Blk.dec_unique D D'
      exact ⟨rfl, hB⟩
    · refine (rdecode_any s a cap n L zs hs g1 g2 hn (by omega) g3 w (R1.below hb)).mono fun e w' h => ?_
      obtain ⟨f, o', k', x', hf, hm, rfl, D', hB⟩ := h
      obtain ⟨rfl, rfl, rfl⟩ := both_dec g3 hE hf hm D D'
      exact ⟨rfl, hB⟩
  · refine ⟨⟨#[]⟩, 0, 2, fun w hb => (decode_bad s oa oc n L zs hs hL g hn (by omega) w (R0.below hb)).mono fun e w' h => ?_, fun w hb => rdecode_bad s a cap n L zs hs hL hn (by omega) g w (R1.below hb)⟩
    obtain ⟨rfl, rfl⟩ := h
    exact ⟨rfl, Below.refl _ _⟩
set_option maxRecDepth 100000 in
set_option maxHeartbeats 1000000 in
theorem walk (s : ByteArray) (hs : s.size ≤ maxLen) (a : Option Addr) (cap : Nat) (zs : List Int) (hc : zs.length ≤ cap) (hm : cap ≤ maxLen) (hw : ∀ n ∈ zs, (Lit.int .i64 n).wf = true) (w : World) (R : Ints w a zs) :
    Calls Tryz.prog 4 #[.string s, .slice a zs.length cap] w fun e w' => e = .returned (.bool true) ∧ Below w.heap.size w w' := by
  have AW := Lib.hid (fun w => bawake_any w)
  unfold maxLen at hs hm
  obtain ⟨L, hL⟩ : ∃ n, s.size = n := ⟨_, rfl⟩
  obtain ⟨n, hn⟩ : ∃ n, zs.length = n := ⟨_, rfl⟩
  rw [hL] at hs
  rw [hn] at hc ⊢
  by_cases h1 : 300 < L
  · clear R hw
    go_enter Tryz.func4, Tryz.ntmps4
    go_wp2_with fail
    (with_reducible refine (AW.out _).mono ?_)
    rintro e w1 ⟨rfl, h1⟩
    have B1 := Lib.hid h1
    clear h1
    go_wp2_with fail
    go_ret
    exact ⟨rfl, B1.out⟩
  by_cases h2 : 300 < n
  · have h1' : decide ((300 : Int) < (L : Int)) = false := by simp; omega
    clear R hw
    go_enter Tryz.func4, Tryz.ntmps4
    go_wp2_with fail
    (with_reducible refine (AW.out _).mono ?_)
    rintro e w1 ⟨rfl, h1⟩
    have B1 := Lib.hid h1
    clear h1
    go_wp2_with fail
    go_ret
    exact ⟨rfl, B1.out⟩
  have LE := Lib.hid (lend_all a cap zs n hn (by omega) hc w R)
  have BO := Lib.hid (fun oa oc w0 R0 R1 => both s oa a oc cap n L zs hL (by omega) hn (by omega) w0 R0 R1)
  have HR := Lib.hid R
  clear R hw hn
  go_enter Tryz.func4, Tryz.ntmps4
  go_wp2_with fail
  (with_reducible refine LE.out.mono ?_)
  rintro e w1 ⟨oa, oc, rfl, hI, hK, hB⟩
  obtain ⟨o, k, x, hD, hE⟩ := BO.out oa oc w1 hI (HR.out.below hB)
  have HD := Lib.hid (hD w1 (Below.refl _ _))
  have HE := Lib.hid hE
  have HK := Lib.hid hK
  have B1 := Lib.hid hB
  have os := beq_same o
  clear hI hK hB hD hE LE BO HR
  go_wp2_with fail
  (with_reducible refine HD.out.mono ?_)
  rintro e w2 ⟨rfl, h2⟩
  have C2 := Lib.hid h2
  clear h2 HD
  go_wp2_with fail
  (with_reducible refine (HE.out _ C2.out).mono ?_)
  rintro e w3 ⟨rfl, h3⟩
  have C3 := Lib.hid (bt C2.out h3)
  clear h3 HE
  go_wp2_with fail
  (with_reducible refine (HK.out _ C3.out).mono ?_)
  rintro e w4 ⟨rfl, h4⟩
  have C4 := Lib.hid (bt (B1.out.trans (C3.out.mono B1.out.size)) h4)
  clear h4 HK
  go_wp2_with fail
  (with_reducible refine (AW.out _).mono ?_)
  rintro e w5 ⟨rfl, h5⟩
  have C5 := Lib.hid (bt C4.out h5)
  clear h5
  go_wp2_with fail
  go_ret
  exact ⟨rfl, C5.out⟩

set_option maxRecDepth 100000 in
theorem lifted (os : Os) (started : os.Started) (H : Type) (enc : TypeId × Value → H) :
    ReturnsInHanded {} Tryz.checked os 4 .any (fun w args => (Rows.blockDecodesSpec.pre enc Tryz.prog Tryz.f4 [] false w args ∧ laidMetH Tryz.prog laidL w) ∧ sizedMet enc Tryz.prog Tryz.f4 (OpenSpec.ofChange Rows.blockDecodesSpec) false w args)
      (Rows.blockDecodesSpec.post enc Tryz.prog Tryz.f4 false true false false) := by
  refine returnsInHanded_of_change_and (C := Tryz.checked) (X := fun w _ => laidMetH Tryz.prog laidL w) (fun _ _ _ hh h => h.of_heap hh) own started (by kernel_rfl) Tryz.func4
    (ChangeSpec.witness_shaped (enc := enc) (C := Tryz.checked) (os := os) (X := fun w _ => laidMetH Tryz.prog laidL w) false (World.laidAll Tryz.prog os laidL) #[.string { data := #[] }, .slice none 0 0] 8 (World.laidAll_os _ _ _)
      (World.shaped_of_ZipB (by kernel_rfl) (by kernel_rfl)) (by kernel_rfl) (by kernel_rfl) (by kernel_rfl) (laid_met os _)) ?_
  intro W base args ds gs before hval0 hW _ _ _ _
  have hval : ∀ (j : Nat) t v, Tryz.f4.params[j]? = some t → args[j]? = some v → Value.okWide Tryz.prog W .any base t v := hval0
  have hW' := hW
  obtain ⟨p, q, hA0, hV, rfl, hfz, hnd⟩ := hW
  have hA : DataW.TrodAll enc Tryz.prog W 0 (fun _ => true) true Tryz.f4.params.toList args.toList ds p := hA0
  rw [Tryz.params4] at hA hval
  obtain ⟨v0, vs0, d0, ds0, p0, q0, hargs, rfl, rfl, h0, r0⟩ := trodAll_cons hA
  obtain ⟨v1, vs1, d1, ds1, p1, q1, rfl, rfl, rfl, h1, r1⟩ := trodAll_cons r0
  obtain ⟨rfl, rfl, rfl⟩ := trodAll_nil r1
  obtain rfl : args = #[v0, v1] := by cases args; simp_all
  obtain ⟨rfl, rfl⟩ := trodVars_none hV
  obtain ⟨a0, rfl, rfl, rfl, w0⟩ := ChangeMaps.open_string Tryz.underlying9 (hval 0 9 v0 rfl rfl) h0
  obtain ⟨x1, y1, z1, e1⟩ := okWide_slice Tryz.underlying28 (hval 1 28 v1 rfl rfl)
  obtain ⟨zs1, S1⟩ := slice_arg Tryz.underlying28 Tryz.underlying3 cells_int (by rw [e1]; rfl) h1
  clear e1
  obtain ⟨⟨ao1, cap1, rfl, l1, m1, R1⟩, w1, shut1⟩ := S1
  clear hA0 hval0
  simp only [List.append_nil] at hW'
  refine (walk a0 w0 ao1 cap1 zs1 l1 m1 w1 W R1).mono fun e W' ⟨he, hg⟩ => ?_
  subst he
  exact ⟨_, rfl, post_of_below (pa := [] ++ (p1 ++ ([]))) (pv := []) hW' (fun _ _ _ => trodAll_cons_mk (shut_bool Tryz.underlying4 _) trodAll_mk0) (fun sp hsp => (trodAll_cons_mk (ChangeMaps.shut_string Tryz.underlying9 w0) (trodAll_cons_mk (shut1 W' hg sp (fun q hq => hsp q (by simp [hq]))) trodAll_mk0))) (fun _ _ => rfl) (by simp)
    hg (ok_one (by kernel_rfl) rfl (okWide_bool_mk Tryz.underlying4 _))⟩

theorem over : Rows.BlockDecodesSaid :=
  OpenClaim.holds_of_wide 4 Tryz.f4 rfl rfl rfl rfl rfl rfl rfl ⟨rfl, rfl, rfl, rfl, rfl⟩ rfl rfl rfl rfl rfl (by kernel_rfl) Tryz.func4 (by kernel_rfl)
    (of_decide_eq_true (by kernel_rfl)) (by unfold Func.isWrapper; first | (rw [if_pos (by decide +kernel)]; kernel_rfl) | (rw [if_neg (by decide +kernel)]; exact ⟨rfl, rfl⟩))
    (fun os started H enc _ => lifted os started H enc)

theorem proved : Rows.BlockDecodesCardSaid :=
  Claim7.holds_tied_plain_at .later [] [.data, .pinned] true Rows.blockDecodesCard.stood.harness false
    over (fun _ h => by cases h) (by kernel_rfl) (fun _ h => by cases h) blockDecodes_row_tie rfl ⟨rfl, rfl⟩ (by kernel_rfl) rfl
    (fun f fn hf hfn => by
      obtain rfl : f = 4 := Option.some.inj ((show Tryz.prog.funcNamed "perigee/perigeelaw05.BlockDecodes" = some 4 by kernel_rfl).symm.trans hf) |>.symm
      obtain rfl : fn = Tryz.f4 := (Option.some.inj (Tryz.func4.symm.trans hfn)).symm
      exact ⟨by kernel_rfl, fun j t ht => by
        have hall : (Tryz.f4.params.toList.all fun u => !Tryz.prog.wantsStandIn u) = true := by kernel_rfl
        have hm : t ∈ Tryz.f4.params.toList := by simpa using Array.mem_of_getElem? ht
        exact (show Tryz.prog.wantsStandIn t = false by simpa using List.all_eq_true.1 hall t hm)⟩)
    (by kernel_rfl)
#print axioms proved
end blockDecodes
