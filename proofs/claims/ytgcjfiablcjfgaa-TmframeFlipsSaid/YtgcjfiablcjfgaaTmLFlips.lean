/- TmLFlips -/
import Derived.Test.YtgcjfiablcjfgaaTpShown
import Derived.Test.YtgcjfiablcjfgaaTmArg
import Derived.Test.YtgcjfiablcjfgaaTmFlipK
import Derived.ProofKit
/- TmframeFlips: a frame in which bits are inverted, all of them within 16 consecutive ones, is not accepted. No condition. -/
namespace Go.Proofs.Ytgcjfiablcjfgaa
open Go.ChangeShapes Go.WideShapes Go.ChangeAt Go.RowKit
set_option linter.unusedVariables false

namespace tmframeFlips
set_option maxRecDepth 100000 in
set_option maxHeartbeats 4000000 in
theorem walk_bad (p : Tmf) (hp : TmWf p) (at' : Int) (hat : (Lit.int .i64 at').wf = true) (Y : Nat) (hX : Y < 65536) (w : World) (ok : ¬ Tm.Ok p) :
    Calls Try.prog 7 #[tmVal p, .int .i64 at', .int .u16 (Y : Nat)] w fun e w' => e = .returned (.bool true) ∧ Below w.heap.size w w' := by
  have hml := hp.1
  have hwo := hp.2
  unfold maxLen at hml
  have SH := Lib.hid (fun w => tshown_any w)
  have T1 := Lib.hid (fun w => tput_any p (by omega) hwo w)
  rw [if_neg ok] at T1
  clear ok hp hml hat
  go_enter Try.func7, Try.ntmps7
  go_wp2_with ((with_reducible refine atList ?_); refine wpList_new rfl (.box 24 (.tmp 0)) rfl (some 3) rfl #[.int .i64 p.cr, .int .i64 p.ch, .int .i64 p.ma, .int .i64 p.ct, .int .i64 p.fi, .string p.da, .int .u32 (p.wo : Nat)] 24 (fun X => .pointer (some ⟨X, 0, none⟩)) 7 (tmCel p) (tm_cells p) (box_tm rfl rfl) ?_; intro X w0 HX Sw0 CX Bw0)
  (with_reducible refine (SH.out _).mono ?_)
  rintro e w1 ⟨rfl, h1⟩
  have C1 := Lib.hid (CX.out.below h1)
  have B1 := Lib.hid (bt Bw0.out h1)
  clear h1
  go_wp2_with ((with_reducible refine atList ?_); refine wpList_getAll rfl 24 (.tmp 3) rfl X 7 [.int .i64 p.cr, .int .i64 p.ch, .int .i64 p.ma, .int .i64 p.ct, .int .i64 p.fi, .string p.da, .int .u32 (p.wo : Nat)] _ _ C1.out rfl (tm_list p) rfl Try.underlying24 rfl tm_info ?_)
  (refine (T1.out _).mono ?_)
  rintro e w2 ⟨rfl, h2⟩
  have B2 := Lib.hid (bt B1.out h2)
  clear h2
  go_wp2_with fail
  go_ret
  exact ⟨rfl, B2.out⟩
set_option maxRecDepth 100000 in
set_option maxHeartbeats 4000000 in
theorem walk_zero (p : Tmf) (hp : TmWf p) (at' : Int) (hat : (Lit.int .i64 at').wf = true) (w : World) (ok : Tm.Ok p) :
    Calls Try.prog 7 #[tmVal p, .int .i64 at', .int .u16 0] w fun e w' => e = .returned (.bool true) ∧ Below w.heap.size w w' := by
  have hml := hp.1
  have hwo := hp.2
  unfold maxLen at hml
  have SH := Lib.hid (fun w => tshown_any w)
  have T1 := Lib.hid (fun w => tput_any p (by omega) hwo w)
  rw [if_pos ok] at T1
  obtain ⟨E, hE⟩ : ∃ E, bs (Tm.enc p) = E := ⟨_, rfl⟩
  rw [hE] at T1
  clear ok hp hml hat hE
  go_enter Try.func7, Try.ntmps7
  go_wp2_with ((with_reducible refine atList ?_); refine wpList_new rfl (.box 24 (.tmp 0)) rfl (some 3) rfl #[.int .i64 p.cr, .int .i64 p.ch, .int .i64 p.ma, .int .i64 p.ct, .int .i64 p.fi, .string p.da, .int .u32 (p.wo : Nat)] 24 (fun X => .pointer (some ⟨X, 0, none⟩)) 7 (tmCel p) (tm_cells p) (box_tm rfl rfl) ?_; intro X w0 HX Sw0 CX Bw0)
  (with_reducible refine (SH.out _).mono ?_)
  rintro e w1 ⟨rfl, h1⟩
  have C1 := Lib.hid (CX.out.below h1)
  have B1 := Lib.hid (bt Bw0.out h1)
  clear h1
  go_wp2_with ((with_reducible refine atList ?_); refine wpList_getAll rfl 24 (.tmp 3) rfl X 7 [.int .i64 p.cr, .int .i64 p.ch, .int .i64 p.ma, .int .i64 p.ct, .int .i64 p.fi, .string p.da, .int .u32 (p.wo : Nat)] _ _ C1.out rfl (tm_list p) rfl Try.underlying24 rfl tm_info ?_)
  (refine (T1.out _).mono ?_)
  rintro e w2 ⟨rfl, h2⟩
  have B2 := Lib.hid (bt B1.out h2)
  clear h2
  go_wp2_with fail
  go_ret
  exact ⟨rfl, B2.out⟩
set_option maxRecDepth 100000 in
set_option maxHeartbeats 4000000 in
theorem walk_ok (p : Tmf) (hp : TmWf p) (at' : Int) (hat : (Lit.int .i64 at').wf = true) (Y : Nat) (hX : Y < 65536) (hX0 : Y ≠ 0) (w : World) (ok : Tm.Ok p) :
    Calls Try.prog 7 #[tmVal p, .int .i64 at', .int .u16 (Y : Nat)] w fun e w' => e = .returned (.bool true) ∧ Below w.heap.size w w' := by
  have hwo := hp.2
  have sz := ok.1.2.2.2.2
  have SH := Lib.hid (fun w => tshown_any w)
  have T1 := Lib.hid (fun w => tput_any p (by omega) hwo w)
  rw [if_pos ok] at T1
  have el : (Tm.enc p).length = p.da.size + 12 := Tm.enc_len p
  obtain ⟨n, hn⟩ : ∃ n, p.da.size + 12 = n := ⟨_, rfl⟩
  rw [hn] at el
  have n1 : 44 ≤ n := by omega
  have n2 : n ≤ 212 := by omega
  have PK := Lib.hid (fun w => pick_any at' hat (8 * n - 15) (by omega) (by omega) w)
  have hk : (at' % ((8 * n - 15 : Nat) : Int)).toNat < 8 * n - 15 := by
    have q1 := Int.emod_lt_of_pos at' (show 0 < ((8 * n - 15 : Nat) : Int) by omega)
    have q2 := Int.emod_nonneg at' (show ((8 * n - 15 : Nat) : Int) ≠ 0 by omega)
    omega
  obtain ⟨k, ek⟩ : ∃ k, (at' % ((8 * n - 15 : Nat) : Int)).toNat = k := ⟨_, rfl⟩
  rw [ek] at PK hk
  rw [show ((8 * n - 15 : Nat) : Int) = 8 * (n : Int) - 15 by omega] at PK
  have GF : Tm.get (Crc.short (Tm.enc p) k Y 16) = (tm0, 100) := Tm.get_flip ok (Crc.short_length _ _ _ _) k (by rw [el]; omega) (fun q hq hw => (Crc.short_bit (Tm.enc p) k Y q hw 16 (by rw [el]; omega)).symm) (Crc.short_ne _ k Y hX hX0 (by rw [el]; omega))
  have G1 := Lib.hid (fun w => tget_any (bs (Crc.short (Tm.enc p) k Y 16)) (by rw [bs_size, Crc.short_length, el]; omega) w)
  rw [bs_list, GF] at G1
  simp only at G1
  have KF := Lib.hid (fun m (hm : k + m < 8 * n) w => kflip_any (bs (Crc.short (Tm.enc p) k Y m)) n (by rw [bs_size, Crc.short_length, el]) (by omega) (by omega) (k + m) hm w)
  obtain ⟨f, hf⟩ : ∃ f : Nat → ByteArray, ∀ m, bs (Crc.short (Tm.enc p) k Y m) = f m := ⟨_, fun _ => rfl⟩
  have hs1 : ∀ m, m < 16 → Y / 2 ^ m % 2 = 1 → (⟨(flipped (bs (Crc.short (Tm.enc p) k Y m)).data.toList (k + m)).toArray⟩ : ByteArray) = f (m + 1) := fun m hm g => by
    rw [← hf, bs_list, show Crc.short (Tm.enc p) k Y (m + 1) = if m < 16 ∧ Y / 2 ^ m % 2 = 1 then Crc.inv (Crc.short (Tm.enc p) k Y m) ((k + m) / 8) (7 - (k + m) % 8) else Crc.short (Tm.enc p) k Y m from rfl, if_pos ⟨hm, g⟩]
    rfl
  have hs0 : ∀ m, ¬ Y / 2 ^ m % 2 = 1 → f m = f (m + 1) := fun m g => by
    rw [← hf, ← hf, show Crc.short (Tm.enc p) k Y (m + 1) = if m < 16 ∧ Y / 2 ^ m % 2 = 1 then Crc.inv (Crc.short (Tm.enc p) k Y m) ((k + m) / 8) (7 - (k + m) % 8) else Crc.short (Tm.enc p) k Y m from rfl, if_neg (fun h => g h.2)]
  rw [show bs (Tm.enc p) = f 0 from hf 0] at T1
  have s0 : (f 0).size = n := by rw [← hf 0, bs_size]; exact el
  simp only [hf] at KF G1 hs1
  have S1 := Lib.hid hs1
  have S0 := Lib.hid hs0
  have z2 : ((Y : Int) == 0) = false := by simp; omega
  have z3 : ((n : Int) < 44) = False := by simp; omega
  have z4 : decide ((n : Int) < 44) = false := decide_eq_false (by omega)
  clear ok hp hat GF hf hs1 hs0 ek el sz hn
  go_enter Try.func7, Try.ntmps7
  go_wp2_with ((with_reducible refine atList ?_); refine wpList_new rfl (.box 24 (.tmp 0)) rfl (some 3) rfl #[.int .i64 p.cr, .int .i64 p.ch, .int .i64 p.ma, .int .i64 p.ct, .int .i64 p.fi, .string p.da, .int .u32 (p.wo : Nat)] 24 (fun X => .pointer (some ⟨X, 0, none⟩)) 7 (tmCel p) (tm_cells p) (box_tm rfl rfl) ?_; intro X w0 HX Sw0 CX Bw0)
  (with_reducible refine (SH.out _).mono ?_)
  rintro e w1 ⟨rfl, h1⟩
  have C1 := Lib.hid (CX.out.below h1)
  have B1 := Lib.hid (bt Bw0.out h1)
  clear h1
  go_wp2_with ((with_reducible refine atList ?_); refine wpList_getAll rfl 24 (.tmp 3) rfl X 7 [.int .i64 p.cr, .int .i64 p.ch, .int .i64 p.ma, .int .i64 p.ct, .int .i64 p.fi, .string p.da, .int .u32 (p.wo : Nat)] _ _ C1.out rfl (tm_list p) rfl Try.underlying24 rfl tm_info ?_)
  (refine (T1.out _).mono ?_)
  rintro e w2 ⟨rfl, h2⟩
  have B2 := Lib.hid (bt B1.out h2)
  clear h2
  go_wp2_with fail
  (with_reducible refine (PK.out _).mono ?_)
  rintro e w' ⟨rfl, rfl⟩
  go_wp2_with fail
  go_loopw [10, 11] (fun b i wr => ∃ m : Nat, m ≤ 16 ∧ i = .int .i64 m ∧ b = .string (f m) ∧ Below w.heap.size w wr) (fun _ i _ => 16 - (intOf i).toNat)
  case atStart => exact ⟨0, by omega, rfl, rfl, B2.out⟩
  case round =>
    obtain ⟨m, hm, rfl, rfl, hB⟩ := hrel
    have HB := Lib.hid hB
    clear hB
    by_cases hlt : m < 16
    · have p1 : decide ((m : Int) < 16) = true := decide_eq_true (by omega)
      have bt2 := (bit_int Y m).symm
      have km : IntKind.i64.wrap ((k : Int) + (m : Int)) = ((k + m : Nat) : Int) := by rw [IntKind.wrap_i64]; omega
      by_cases g : Y / 2 ^ m % 2 = 1
      · rw [g] at bt2
        rw [show ((1 : Nat) : Int) = 1 from rfl] at bt2
        have K1 := Lib.hid (fun w => KF.out m (by omega) w)
        rw [S1.out m hlt g] at K1
        simp only [Int.natCast_add] at K1
        clear g
        go_wp2_with fail
        (with_reducible refine (K1.out _).mono ?_)
        rintro e w4 ⟨rfl, h4⟩
        have B4 := Lib.hid (bt HB.out h4)
        clear h4
        go_wp2_with fail
        go_roundw
        case rel => exact ⟨m + 1, by omega, by go_num, rfl, B4.out⟩
        case measure => simp [intOf]; omega
      · have g0 : Y / 2 ^ m % 2 = 0 := by omega
        have E1 := S0.out m g
        rw [g0] at bt2
        rw [show ((0 : Nat) : Int) = 0 from rfl] at bt2
        clear g g0
        go_wp2_with fail
        go_roundw
        case rel => exact ⟨m + 1, by omega, by go_num, by rw [E1], HB.out⟩
        case measure => simp [intOf]; omega
    · have p1 : decide ((m : Int) < 16) = false := decide_eq_false (by omega)
      obtain rfl : m = 16 := by omega
      clear hlt hm
      go_wp2_with fail
      (with_reducible refine (G1.out _).mono ?_)
      rintro e w5 ⟨rfl, h5⟩
      have B5 := Lib.hid (bt HB.out h5)
      clear h5
      go_wp2_with (first
        | ((with_reducible refine atList ?_); refine wpList_new rfl (.alloc 24) rfl (some 12) rfl #[.int .i64 0, .int .i64 0, .int .i64 0, .int .i64 0, .int .i64 0, .string ⟨#[]⟩, .int .u32 0] 24 (fun X => .pointer (some ⟨X, 0, none⟩)) 7 (tmCel tm0) (tm_cells tm0) (alloc_tm rfl) ?_; intro X3 w6 HX3 Sw6 CX3 Bw6)
        | ((with_reducible refine atList ?_); refine wpList_setAll rfl 24 (.tmp 12) (.tmp 63) rfl X3 7 [.int .i64 tm0.cr, .int .i64 tm0.ch, .int .i64 tm0.ma, .int .i64 tm0.ct, .int .i64 tm0.fi, .string tm0.da, .int .u32 (tm0.wo : Nat)] _ (tmCel tm0) CX3.out rfl (tm_list tm0) rfl rfl tm_info (by simp [Value.oneCell']) ?_; intro w7 C7 U7 S7))
      go_ret
      exact ⟨rfl, But.under (bt B5.out Bw6.out) U7.out (by have := HX3.out; have := B5.out.size; omega)⟩
theorem walk (p : Tmf) (hp : TmWf p) (at' : Int) (hat : (Lit.int .i64 at').wf = true) (x : Int) (hx : (Lit.int .u16 x).wf = true) (w : World) :
    Calls Try.prog 7 #[tmVal p, .int .i64 at', .int .u16 x] w fun e w' => e = .returned (.bool true) ∧ Below w.heap.size w w' := by
  have hb : 0 ≤ x ∧ x < 65536 := by
    simp only [Lit.wf, IntKind.min, IntKind.max, IntKind.signed, IntKind.bits, Bool.and_eq_true] at hx
    simp at hx
    omega
  obtain ⟨Y, rfl⟩ : ∃ Y : Nat, x = (Y : Int) := ⟨x.toNat, by omega⟩
  by_cases ok : Tm.Ok p
  · by_cases h0 : Y = 0
    · subst h0
      exact walk_zero p hp at' hat w ok
    · exact walk_ok p hp at' hat Y (by omega) h0 w ok
  · exact walk_bad p hp at' hat Y (by omega) w ok

set_option maxRecDepth 100000 in
theorem lifted (os : Os) (started : os.Started) (H : Type) (enc : TypeId × Value → H) :
    ReturnsInHanded {} Try.checked os 7 .any (Rows.tmframeFlipsSpec.pre6 enc Try.prog Try.f7 Rows.tmframeFlipsRow.domain false) (Rows.tmframeFlipsSpec.post enc Try.prog Try.f7 false true false false) := by
  refine returnsInHanded_of_change (C := Try.checked) own started (by kernel_rfl) Try.func7
    (ChangeSpec.witness6 (enc := enc) (C := Try.checked) false ⟨#[], #[.agg #[.int .i64 0, .int .i64 0, .int .i64 0, .int .i64 0, .int .i64 0, .string { data := #[] }, .int .u32 0], .int .i64 0, .int .u16 0], []⟩ 8 (by kernel_rfl) (by kernel_rfl) (by kernel_rfl) (by kernel_rfl)) ?_
  intro W base args ds gs before hval0 hW _ _
  have hval : ∀ (j : Nat) t v, Try.f7.params[j]? = some t → args[j]? = some v → Value.okWide Try.prog W .any base t v := hval0
  have hW' := hW
  obtain ⟨p, q, hA0, hV, rfl, hfz, hnd⟩ := hW
  have hA : DataW.TrodAll enc Try.prog W 0 (fun _ => true) true Try.f7.params.toList args.toList ds p := hA0
  rw [Try.params7] at hA hval
  obtain ⟨v0, vs0, d0, ds0, p0, q0, hargs, rfl, rfl, h0, r0⟩ := trodAll_cons hA
  obtain ⟨v1, vs1, d1, ds1, p1, q1, rfl, rfl, rfl, h1, r1⟩ := trodAll_cons r0
  obtain ⟨v2, vs2, d2, ds2, p2, q2, rfl, rfl, rfl, h2, r2⟩ := trodAll_cons r1
  obtain ⟨rfl, rfl, rfl⟩ := trodAll_nil r2
  obtain rfl : args = #[v0, v1, v2] := by cases args; simp_all
  obtain ⟨rfl, rfl⟩ := trodVars_none hV
  obtain ⟨a0, rfl, w0, shut0⟩ := frame_arg (hval 0 24 v0 rfl rfl) h0
  obtain ⟨a1, rfl, rfl, rfl, w1⟩ := open_int Try.underlying3 (hval 1 3 v1 rfl rfl) h1
  obtain ⟨a2, rfl, rfl, rfl, w2⟩ := open_int Try.underlying56 (hval 2 56 v2 rfl rfl) h2
  clear hA0 hval0
  simp only [List.append_nil] at hW'
  refine (walk a0 w0 a1 w1 a2 w2 W).mono fun e W' ⟨he, hg⟩ => ?_
  subst he
  exact ⟨_, rfl, post_of_below (pa := (p0 ++ ([] ++ ([] ++ [])))) (pv := []) hW' (fun _ _ _ => trodAll_cons_mk (shut_bool Try.underlying4 _) trodAll_mk0) (fun sp hsp => (trodAll_cons_mk (shut0 W' hg sp (fun q hq => hsp q (by simp [hq]))) (trodAll_cons_mk (shut_int Try.underlying3 w1) (trodAll_cons_mk (shut_int Try.underlying56 w2) trodAll_mk0)))) (fun _ _ => rfl) (by simp)
    hg (ok_one (by kernel_rfl) rfl (okWide_bool_mk Try.underlying4 _))⟩

theorem proved : Rows.TmframeFlipsSaid :=
  OpenClaim.holds_of_wide 7 Try.f7 rfl rfl rfl rfl rfl rfl rfl ⟨rfl, rfl, rfl, rfl, rfl⟩ rfl rfl rfl rfl rfl (by kernel_rfl) Try.func7 (by kernel_rfl)
    (of_decide_eq_true (by kernel_rfl)) (by unfold Func.isWrapper; first | (rw [if_pos (by decide +kernel)]; kernel_rfl) | (rw [if_neg (by decide +kernel)]; exact ⟨rfl, rfl⟩))
    (fun os started H enc _ => lifted os started H enc)
#print axioms proved
end tmframeFlips
end Go.Proofs.Ytgcjfiablcjfgaa
