/- Layer 8: the contract of perigeelaw08's soften and stream over this program. -/
import Derived.Test.YtlfnglinalmpjaaMkParts
import Derived.Test.YtlfnglinalmpjaaPickKit
import Derived.Test.YtlfnglinalmpjaaVpCel
namespace Go.Proofs.Ytlfnglinalmpjaa
open Go.RowKit
set_option linter.unusedVariables false

theorem lsoften_any (s : ByteArray) (n : Nat) (hn : s.size = n) (hl : n ≤ 1000000) (hk : listOk s.data.toList = true) (w : World) :
    Calls Try.prog 30 #[.string s] w fun e w' => ∃ v, e = .returned v ∧ w'.ownsRow w.heap.size 3 1 v n (zlist (sft s.data.toList) n) ∧ Below w.heap.size w w' := by
  have S := Lib.hid (fun w => rsoften_any s n hn hl w)
  have HK := Lib.hid hk
  clear hn
  go_enter Try.func30, Try.ntmps30
  go_wp2_with fail
  (with_reducible refine (S.out _).mono ?_)
  intro e w2 hs
  unfold Softened at hs
  rw [if_pos HK.out] at hs
  obtain ⟨v, rfl, hown, hb⟩ := hs
  have HO := Lib.hid hown
  have HB := Lib.hid hb
  clear hown hb S
  go_wp2_with fail
  go_ret
  exact ⟨v, rfl, HO.out, HB.out⟩
theorem take_some {α : Type} {l : List α} {k j : Nat} {u : α} (h : (l.take k)[j]? = some u) : l[j]? = some u := by
  by_cases hj : j < k
  · rwa [List.getElem?_take_of_lt hj] at h
  · rw [List.getElem?_eq_none (by rw [List.length_take]; omega)] at h
    cases h
theorem mkS_ok : listOk mkS.data.toList = true := by decide +kernel
theorem seven (j : Nat) (h : j < 32) : sft mkS.data.toList j = 7 ∨ sft mkS.data.toList j = -7 := by
  have := (listOk_iff _).1 mkS_ok j (by rw [ls]; exact h)
  unfold sft
  omega
set_option maxRecDepth 100000 in
set_option maxHeartbeats 4000000 in
theorem stream_any (a : Option Addr) (cap : Nat) (l : List PartV) (n : Nat) (hn : l.length = n) (hn30 : n ≤ 30) (len : Nat) (hlen : len ≤ 300) (w : World) (R : Parts w a l) :
    Calls Try.prog 19 #[.slice a n cap, .int .i64 (len : Nat)] w fun e w' => ∃ (v : Value) (zs : List Int), e = .returned v ∧ w'.ownsRow w.heap.size 3 1 v zs.length (zs.map (Value.int .i64)) ∧ (∀ z ∈ zs, -8 ≤ z ∧ z ≤ 7) ∧ zs.length ≤ 332 * n ∧ Below w.heap.size w w' := by
  have HR := Lib.hid R
  have HN := Lib.hid hn
  have MK := Lib.hid (fun w => rmarker_any w)
  have SO := Lib.hid (fun w => lsoften_any mkS 32 (coefs_size _ _) (by omega) mkS_ok w)
  obtain ⟨i0, hi0, hz0, hz1, hz2⟩ := info_parts info_i64
  clear R hn
  go_enter Try.func19, Try.ntmps19
  go_wp2_with fail
  go_loopw [5, 6] (fun o x wr => ∃ (i : Nat) (zs : List Int), i ≤ n ∧ x = .int .i64 (i : Nat) ∧ wr.ownsRow w.heap.size 3 1 o zs.length (zs.map (Value.int .i64)) ∧ (∀ z ∈ zs, -8 ≤ z ∧ z ≤ 7) ∧ zs.length ≤ 332 * i ∧ Below w.heap.size w wr) (fun _ x _ => n - (intOf x).toNat)
  case atStart => exact ⟨0, [], Nat.zero_le _, rfl, World.ownsRow_nil _ _ _ _, fun z hz => by simp at hz, Nat.zero_le _, Below.refl _ _⟩
  case round =>
    obtain ⟨i, zs, hi, rfl, hown, hsoft, hzl, hB⟩ := hrel
    have HO := Lib.hid hown
    have HS := Lib.hid hsoft
    have HB := Lib.hid hB
    have RI := Lib.hid (HR.out.below hB)
    clear hown hsoft hB
    by_cases hlt : i < n
    · have t1 : decide ((i : Int) < (n : Int)) = true := by simp; omega
      obtain ⟨⟨pl, vals, va, vc, wrg, wa, wc, cut⟩, hx⟩ : ∃ x, l[i]? = some x := ⟨l[i]'(by rw [HN.out]; exact hlt), List.getElem?_eq_getElem _⟩
      rcases RI.out with h0 | ⟨B, off, rfl, lB, hc⟩
      · rw [h0] at hx
        simp at hx
      obtain ⟨hcs, ⟨iv, lv, mv, wv⟩, ⟨iw, lw, mw, ww⟩, wct⟩ := hc i _ hx
      simp only at iv lv mv wv iw lw mw ww wct
      have c0 := hcs 0 _ rfl
      have c1 := hcs 1 _ rfl
      have c2 := hcs 2 _ rfl
      have c3 := hcs 3 _ rfl
      simp only [Nat.add_zero] at c0 c1 c2 c3
      have HX := Lib.hid hx
      have IV := Lib.hid iv
      have IW := Lib.hid iw
      have WV := Lib.hid wv
      have WW := Lib.hid ww
      have WC := Lib.hid wct
      have k9 : (i : Int) < (n : Int) := by omega
      obtain ⟨nv, hnv⟩ : ∃ x, vals.length = x := ⟨_, rfl⟩
      obtain ⟨nw, hnw⟩ : ∃ x, wrg.length = x := ⟨_, rfl⟩
      rw [hnv] at c1 lv
      rw [hnw] at c2 lw
      have NV := Lib.hid hnv
      have NW := Lib.hid hnw
      have BX := ba (Below.refl wr.heap.size wr) (.cells #[.bool pl, .slice va nv vc, .slice wa nw wc, .int .i64 cut] 70)
      have CX := Cel.new (n := 4) (f := fun j => if j = 0 then .bool pl else if j = 1 then .slice va nv vc else if j = 2 then .slice wa nw wc else .int .i64 cut) wr #[.bool pl, .slice va nv vc, .slice wa nw wc, .int .i64 cut] 70 (fun j hj => match j, hj with | 0, _ => rfl | 1, _ => rfl | 2, _ => rfl | 3, _ => rfl)
      have sW : (wr.alloc (.cells #[.bool pl, .slice va nv vc, .slice wa nw wc, .int .i64 cut] 70)).heap.size = wr.heap.size + 1 := by rw [World.size_alloc]
      clear hcs hc hx iv iw wv ww wct hnv hnw RI
      obtain ⟨W1, hW1⟩ : ∃ W1, wr.alloc (.cells #[.bool pl, .slice va nv vc, .slice wa nw wc, .int .i64 cut] 70) = W1 := ⟨_, rfl⟩
      have HW1 := Lib.hid (show Below wr.heap.size wr W1 by rw [← hW1]; exact BX)
      rw [hW1] at CX sW
      have x0 := CX.cell (j := 0) (by omega)
      rw [if_pos rfl] at x0
      have X1 := Lib.hid (CX.cell (j := 1) (by omega))
      have X2 := Lib.hid (CX.cell (j := 2) (by omega))
      have X3 := Lib.hid (CX.cell (j := 3) (by omega))
      have lX : wr.heap.size < wr.heap.size + 1 := Nat.lt_succ_self _
      have EW := Lib.hid hW1
      clear CX BX hW1
      cases pl with
      | true =>
        have OV := Lib.hid (World.ownsRow_nil W1 (wr.heap.size + 1) 3 1)
        have SV := Lib.hid (show ∀ z ∈ ([] : List Int), -8 ≤ z ∧ z ≤ 7 from fun z hz => by simp at hz)
        obtain ⟨vs0, hvs0⟩ : ∃ l : List Int, [] = l := ⟨_, rfl⟩
        have LV0 := Lib.hid (show vs0.length ≤ 32 by rw [← hvs0]; exact Nat.zero_le _)
        rw [hvs0] at SV
        have OV := Lib.hid (show W1.ownsRow (wr.heap.size + 1) 3 1 (.slice none 0 0) vs0.length (vs0.map (Value.int .i64)) by rw [← hvs0]; exact OV.out)
        have BV := Lib.hid (Below.refl (wr.heap.size + 1) W1)
        go_wp2_with (simp only [EW.out])
        go_loopw [8, 11] (fun v k wl => ∃ (kk : Nat) (vs : List Int), kk ≤ len ∧ k = .int .i64 (kk : Nat) ∧ wl.ownsRow (wr.heap.size + 1) 3 1 v vs.length (vs.map (Value.int .i64)) ∧ (∀ z ∈ vs, -8 ≤ z ∧ z ≤ 7) ∧ vs.length ≤ 32 + kk ∧ Below (wr.heap.size + 1) W1 wl) (fun _ k _ => len - (intOf k).toNat)
        case atStart => exact ⟨0, vs0, Nat.zero_le _, rfl, OV.out, SV.out, by have := LV0.out; omega, BV.out⟩
        case round =>
          obtain ⟨kk, vs, hkk, rfl, hov, hsv, hlv, hbv⟩ := hrel
          rename World => wl
          have OV2 := Lib.hid hov
          have SV2 := Lib.hid hsv
          have BV2 := Lib.hid hbv
          have HL2 := Lib.hid hlv
          have vl2 : vs.length ≤ 332 := by omega
          have k1 := (hbv.cell (p := ⟨wr.heap.size, 1, none⟩) lX).trans X1.out
          have k3 := (hbv.cell (p := ⟨wr.heap.size, 3, none⟩) lX).trans X3.out
          have IV2 := Lib.hid (IV.out.below (HW1.out.trans (hbv.mono (Nat.le_succ _))))
          clear hov hsv hbv hlv
          by_cases hkl : kk < len
          · have t2 : decide ((kk : Int) < (len : Int)) = true := by simp; omega
            by_cases hnv0 : 0 < nv
            · have t3 : decide ((0 : Int) < (nv : Int)) = true := by simp; omega
              obtain ⟨vb, vo, rfl, lvb, hvc⟩ := IV2.out.cell (by rw [NV.out]; exact hnv0)
              obtain ⟨q, hq⟩ : ∃ q, kk % nv = q := ⟨_, rfl⟩
              have qn : q < nv := by rw [← hq]; exact Nat.mod_lt _ hnv0
              have em : (kk : Int).tmod (nv : Int) = (q : Int) := by rw [← hq]; exact (Int.ofNat_tmod kk nv).symm
              have vc1 := hvc q (by rw [NV.out]; exact qn)
              obtain ⟨z, hz⟩ : ∃ z, vals.getD q 0 = z := ⟨_, rfl⟩
              rw [hz] at vc1
              have wz := WV.out z (by rw [← hz, List.getD_eq_getElem?_getD, List.getElem?_eq_getElem (by rw [NV.out]; exact qn)]; exact List.getElem_mem _)
              have PZ := Lib.hid (fun w => show Calls Try.prog 20 #[.int .i64 z, .int .i64 16] w (fun e w' => e = .returned (.int .i64 ((z % (16 : Int)).toNat : Nat)) ∧ w = w') from pick_any z wz 16 (by omega) (by omega) w)
              have p16 : (z % (16 : Int)).toNat < 16 := by omega
              obtain ⟨pz, hpz⟩ : ∃ x, (z % (16 : Int)).toNat = x := ⟨_, rfl⟩
              rw [hpz] at PZ p16
              have nv1 : (nv : Int) ≠ 0 := by omega
              have q1 : (q : Int) < (nv : Int) := by omega
              obtain ⟨y, hy⟩ : ∃ y, (pz : Int) - 8 = y := ⟨_, rfl⟩
              have yb : -8 ≤ y ∧ y ≤ 7 := by omega
              have BQ := Lib.hid (fun nq => below_drewN (Below.refl wl.heap.size wl) nq)
              clear hq hvc hz hpz wz
              go_wp2_with (go_quiet (fail))
              (with_reducible refine (PZ.out _).mono ?_)
              rintro e w7 ⟨rfl, rfl⟩
              have BA := Lib.hid ((below_drewN BV2.out nq).alloc (show wr.heap.size + 1 ≤ (wl.drewN nq).heap.size by have := BV2.out.size; rw [sW] at this; exact this) (.cells #[.int .i64 y] 3))
              have OA := Lib.hid ((own_below OV2.out (BQ.out nq)).alloc (.cells #[.int .i64 y] 3))
              go_wp2_with (at_builtin; refine wpList_append_own _ rfl _ _ 29 rfl (wr.heap.size + 1) 3 i0 (.int .i64 0) 1 8 Try.underlying29 hi0 hz0 hz1 hz2 rfl (by decide) _ _ _ rfl OA.out ⟨wl.heap.size, 0, none⟩ 1 1 [.int .i64 y] rfl rfl cell_one (by simp [Value.oneCell']) (by unfold maxLen; omega) (by omega) (by have := BA.out.size; rw [sW] at this; exact this) ?_; intro v8 w8 hown8 hgrow8 _; have O8 := Lib.hid hown8; have B8 := Lib.hid (BA.out.grown hgrow8 (by have := BA.out.size; rw [sW] at this; exact this) (fun k e => own_block_ge OV2.out e)); clear hown8 hgrow8)
              go_roundw
              case rel => exact ⟨kk + 1, vs ++ [y], by omega, by go_num, by rw [List.length_append, List.map_append]; exact O8.out, fun z' hz' => by
                rcases List.mem_append.1 hz' with h | h
                · exact SV2.out z' h
                · simp at h
                  omega, by rw [List.length_append]; have := HL2.out; simp only [List.length_singleton]; omega, B8.out⟩
              case measure => simp [intOf]; omega
            · have t3 : decide ((0 : Int) < (nv : Int)) = false := by simp; omega
              have PC := Lib.hid (fun w => show Calls Try.prog 20 #[.int .i64 cut, .int .i64 3] w (fun e w' => e = .returned (.int .i64 ((cut % (3 : Int)).toNat : Nat)) ∧ w = w') from pick_any cut WC.out 3 (by omega) (by omega) w)
              have pc3 : (cut % (3 : Int)).toNat < 3 := by omega
              obtain ⟨pc, hpc⟩ : ∃ x, (cut % (3 : Int)).toNat = x := ⟨_, rfl⟩
              rw [hpc] at PC pc3
              obtain ⟨ma, mc, rfl⟩ := own_is OV2.out
              obtain ⟨ml, hml⟩ : ∃ x, vs.length = x := ⟨_, rfl⟩
              have ML := Lib.hid hml
              rw [hml] at HL2 OV2 ⊢
              clear hpc hml
              obtain ⟨mn, hmn⟩ : ∃ x, min ml pc = x := ⟨_, rfl⟩
              have mn1 : min (ml : Int) (pc : Int) = (mn : Int) := by omega
              have mnl : mn ≤ ml := by omega
              obtain ⟨mk, hmk⟩ : ∃ x, ml - mn = x := ⟨_, rfl⟩
              have mk1 : (ml : Int) - (mn : Int) = (mk : Int) := by omega
              have mkl : mk ≤ ml := by omega
              have HT := Lib.hid (HW1.out.trans (BV2.out.mono (Nat.le_succ _)))
              have HO2 := Lib.hid (own_below HO.out HT.out)
              have BT := Lib.hid (HB.out.trans (HT.out.mono HB.out.size))
              have zb : zs.length ≤ 10000 := by omega
              have ZB := Lib.hid hzl
              clear hmn hmk hzl
              rcases OV2.out.2 with ⟨hv, h0⟩ | ⟨g, c, cur, hv, hb, hg, hc, hm, hsz, ht⟩
              · simp only [Value.slice.injEq] at hv
                obtain ⟨rfl, rfl, rfl⟩ := hv
                obtain rfl : mk = 0 := by omega
                obtain rfl : mn = 0 := by omega
                have m0 : min (0 : Int) (pc : Int) = 0 := by omega
                have ZB2 := Lib.hid (show zs.length ≤ 332 * (i + 1) by have := ZB.out; omega)
                go_wp2_with fail
                (with_reducible refine (PC.out _).mono ?_)
                rintro e w7 ⟨rfl, rfl⟩
                rcases HO2.out.2 with ⟨hv2, h02⟩ | ⟨og, oc, ocur, hv2, _, _, hoc, _⟩
                · subst hv2
                  obtain rfl : zs = [] := List.eq_nil_of_length_eq_zero h02
                  go_wp2_with fail
                  go_roundw
                  case rel => exact ⟨i + 1, [], by omega, by go_num, HO2.out, HS.out, ZB2.out, BT.out⟩
                  case measure => simp [intOf]; omega
                · subst hv2
                  obtain ⟨zn, hzn⟩ : ∃ x, zs.length = x := ⟨_, rfl⟩
                  rw [hzn] at hoc
                  have HO3 := Lib.hid HO2.out
                  rw [hzn] at HO3 ⊢
                  have ZN := Lib.hid hzn
                  clear hzn
                  go_wp2_with fail
                  go_roundw
                  case rel => exact ⟨i + 1, zs, by omega, by go_num, by rw [ZN.out]; exact HO3.out, HS.out, ZB2.out, BT.out⟩
                  case measure => simp [intOf]; omega
              · simp only [Value.slice.injEq] at hv
                obtain ⟨rfl, _, rfl⟩ := hv
                have SC := Lib.hid (fun j u hu => OV2.out.cells (g := g) rfl j u hu)
                have TK := Lib.hid (show (vs.take mk).length = mk by rw [List.length_take, ML.out]; omega)
                have ZB2 := Lib.hid (show zs.length + mk ≤ 332 * (i + 1) by have := ZB.out; have := HL2.out; omega)
                have mkb : mk ≤ 400 := by have := HL2.out; omega
                go_wp2_with fail
                (with_reducible refine (PC.out _).mono ?_)
                rintro e w7 ⟨rfl, rfl⟩
                go_wp2_with (at_builtin; refine wpList_append_own _ rfl _ _ 29 rfl w.heap.size 3 i0 (.int .i64 0) 1 8 Try.underlying29 hi0 hz0 hz1 hz2 rfl (by decide) _ _ _ rfl HO2.out ⟨g, 0, none⟩ mk _ ((vs.take mk).map (Value.int .i64)) rfl (by rw [List.length_map, TK.out, Nat.mul_one]) (fun j u hu => SC.out j u (by rw [List.map_take] at hu; exact take_some hu)) (fun u hu => by obtain ⟨q, _, rfl⟩ := List.mem_map.1 hu; simp [Value.oneCell']) (by unfold maxLen; omega) (by omega) BT.out.size ?_; intro v8 w8 hown8 hgrow8 _; have O8 := Lib.hid hown8; have B8 := Lib.hid (BT.out.grown hgrow8 BT.out.size (fun k e => own_block_ge HO2.out e)); clear hown8 hgrow8)
                go_roundw
                case rel => exact ⟨i + 1, zs ++ vs.take mk, by omega, by go_num, by rw [List.length_append, TK.out, List.map_append]; exact O8.out, fun z' hz' => by
                  rcases List.mem_append.1 hz' with h | h
                  · exact HS.out z' h
                  · exact SV2.out z' (List.mem_of_mem_take h), by rw [List.length_append, TK.out]; exact ZB2.out, B8.out⟩
                case measure => simp [intOf]; omega
          · have t2 : decide ((kk : Int) < (len : Int)) = false := by simp; omega
            have PC := Lib.hid (fun w => show Calls Try.prog 20 #[.int .i64 cut, .int .i64 3] w (fun e w' => e = .returned (.int .i64 ((cut % (3 : Int)).toNat : Nat)) ∧ w = w') from pick_any cut WC.out 3 (by omega) (by omega) w)
            have pc3 : (cut % (3 : Int)).toNat < 3 := by omega
            obtain ⟨pc, hpc⟩ : ∃ x, (cut % (3 : Int)).toNat = x := ⟨_, rfl⟩
            rw [hpc] at PC pc3
            obtain ⟨ma, mc, rfl⟩ := own_is OV2.out
            obtain ⟨ml, hml⟩ : ∃ x, vs.length = x := ⟨_, rfl⟩
            have ML := Lib.hid hml
            rw [hml] at HL2 OV2 ⊢
            clear hpc hml
            obtain ⟨mn, hmn⟩ : ∃ x, min ml pc = x := ⟨_, rfl⟩
            have mn1 : min (ml : Int) (pc : Int) = (mn : Int) := by omega
            have mnl : mn ≤ ml := by omega
            obtain ⟨mk, hmk⟩ : ∃ x, ml - mn = x := ⟨_, rfl⟩
            have mk1 : (ml : Int) - (mn : Int) = (mk : Int) := by omega
            have mkl : mk ≤ ml := by omega
            have HT := Lib.hid (HW1.out.trans (BV2.out.mono (Nat.le_succ _)))
            have HO2 := Lib.hid (own_below HO.out HT.out)
            have BT := Lib.hid (HB.out.trans (HT.out.mono HB.out.size))
            have zb : zs.length ≤ 10000 := by omega
            have ZB := Lib.hid hzl
            clear hmn hmk hzl
            rcases OV2.out.2 with ⟨hv, h0⟩ | ⟨g, c, cur, hv, hb, hg, hc, hm, hsz, ht⟩
            · simp only [Value.slice.injEq] at hv
              obtain ⟨rfl, rfl, rfl⟩ := hv
              obtain rfl : mk = 0 := by omega
              obtain rfl : mn = 0 := by omega
              have m0 : min (0 : Int) (pc : Int) = 0 := by omega
              have ZB2 := Lib.hid (show zs.length ≤ 332 * (i + 1) by have := ZB.out; omega)
              go_wp2_with fail
              (with_reducible refine (PC.out _).mono ?_)
              rintro e w7 ⟨rfl, rfl⟩
              rcases HO2.out.2 with ⟨hv2, h02⟩ | ⟨og, oc, ocur, hv2, _, _, hoc, _⟩
              · subst hv2
                obtain rfl : zs = [] := List.eq_nil_of_length_eq_zero h02
                go_wp2_with fail
                go_roundw
                case rel => exact ⟨i + 1, [], by omega, by go_num, HO2.out, HS.out, ZB2.out, BT.out⟩
                case measure => simp [intOf]; omega
              · subst hv2
                obtain ⟨zn, hzn⟩ : ∃ x, zs.length = x := ⟨_, rfl⟩
                rw [hzn] at hoc
                have HO3 := Lib.hid HO2.out
                rw [hzn] at HO3 ⊢
                have ZN := Lib.hid hzn
                clear hzn
                go_wp2_with fail
                go_roundw
                case rel => exact ⟨i + 1, zs, by omega, by go_num, by rw [ZN.out]; exact HO3.out, HS.out, ZB2.out, BT.out⟩
                case measure => simp [intOf]; omega
            · simp only [Value.slice.injEq] at hv
              obtain ⟨rfl, _, rfl⟩ := hv
              have SC := Lib.hid (fun j u hu => OV2.out.cells (g := g) rfl j u hu)
              have TK := Lib.hid (show (vs.take mk).length = mk by rw [List.length_take, ML.out]; omega)
              have ZB2 := Lib.hid (show zs.length + mk ≤ 332 * (i + 1) by have := ZB.out; have := HL2.out; omega)
              have mkb : mk ≤ 400 := by have := HL2.out; omega
              go_wp2_with fail
              (with_reducible refine (PC.out _).mono ?_)
              rintro e w7 ⟨rfl, rfl⟩
              go_wp2_with (at_builtin; refine wpList_append_own _ rfl _ _ 29 rfl w.heap.size 3 i0 (.int .i64 0) 1 8 Try.underlying29 hi0 hz0 hz1 hz2 rfl (by decide) _ _ _ rfl HO2.out ⟨g, 0, none⟩ mk _ ((vs.take mk).map (Value.int .i64)) rfl (by rw [List.length_map, TK.out, Nat.mul_one]) (fun j u hu => SC.out j u (by rw [List.map_take] at hu; exact take_some hu)) (fun u hu => by obtain ⟨q, _, rfl⟩ := List.mem_map.1 hu; simp [Value.oneCell']) (by unfold maxLen; omega) (by omega) BT.out.size ?_; intro v8 w8 hown8 hgrow8 _; have O8 := Lib.hid hown8; have B8 := Lib.hid (BT.out.grown hgrow8 BT.out.size (fun k e => own_block_ge HO2.out e)); clear hown8 hgrow8)
              go_roundw
              case rel => exact ⟨i + 1, zs ++ vs.take mk, by omega, by go_num, by rw [List.length_append, TK.out, List.map_append]; exact O8.out, fun z' hz' => by
                rcases List.mem_append.1 hz' with h | h
                · exact HS.out z' h
                · exact SV2.out z' (List.mem_of_mem_take h), by rw [List.length_append, TK.out]; exact ZB2.out, B8.out⟩
              case measure => simp [intOf]; omega
      | false =>
        go_wp2_with (simp only [EW.out])
        (with_reducible refine (MK.out _).mono ?_)
        rintro e w2 ⟨rfl, h2⟩
        have H2 := Lib.hid h2
        clear h2
        go_wp2_with fail
        (with_reducible refine (SO.out _).mono ?_)
        rintro e w3 ⟨v3, rfl, o3, h3⟩
        have B3 := Lib.hid (show Below (wr.heap.size + 1) W1 w3 by have := bt H2.out h3; rw [sW] at this; exact this)
        have o4 := own_mono o3 (show wr.heap.size + 1 ≤ w2.heap.size by have := H2.out.size; omega)
        rw [zlist_zof] at o4
        obtain ⟨g, gc, rfl, _, _⟩ := own_at0 o3 (by omega)
        have O4 := Lib.hid o4
        clear h3 o3 o4 H2
        go_wp2_with fail
        go_loopw [9] (fun x wl => ∃ (k : Nat) (vs : List Int), k ≤ nw ∧ x = .int .i64 (k : Nat) ∧ wl.ownsRow (wr.heap.size + 1) 3 1 (.slice (some ⟨g, 0, none⟩) 32 gc) 32 (vs.map (Value.int .i64)) ∧ (∀ z ∈ vs, z = 7 ∨ z = -7) ∧ vs.length = 32 ∧ Below (wr.heap.size + 1) W1 wl) (fun x _ => nw - (intOf x).toNat)
        case atStart =>
          exact ⟨0, zof (sft mkS.data.toList) 32, Nat.zero_le _, rfl, O4.out, fun z hz => by
            obtain ⟨j, hj, rfl⟩ := List.mem_map.1 hz
            exact seven j (by simpa using hj), zof_len _ _, B3.out⟩
        case round =>
          obtain ⟨k, vs0, hk, rfl, hov, hsv, hlv, hbv⟩ := hrel
          rename World => wk
          have OK := Lib.hid hov
          have SK := Lib.hid hsv
          have BK := Lib.hid hbv
          have LK := Lib.hid hlv
          have x1' := (hbv.cell (p := ⟨wr.heap.size, 1, none⟩) lX).trans X1.out
          have x2' := (hbv.cell (p := ⟨wr.heap.size, 2, none⟩) lX).trans X2.out
          have IW2 := Lib.hid (IW.out.below (HW1.out.trans (hbv.mono (Nat.le_succ _))))
          have OV := Lib.hid (show wk.ownsRow (wr.heap.size + 1) 3 1 (.slice (some ⟨g, 0, none⟩) 32 gc) vs0.length (vs0.map (Value.int .i64)) by rw [hlv]; exact hov)
          have SV := Lib.hid (show ∀ z ∈ vs0, -8 ≤ z ∧ z ≤ 7 from fun z hz => by rcases hsv z hz with h | h <;> omega)
          have LV0 := Lib.hid (show vs0.length ≤ 32 by omega)
          have BV := Lib.hid hbv
          clear hov hsv hbv hlv O4 B3
          by_cases hkn : k < nw
          · have t5 : decide ((k : Int) < (nw : Int)) = true := by simp; omega
            by_cases hk32 : k < 32
            · have t6 : decide ((k : Int) < 32) = true := by simp; omega
              obtain ⟨wb, wo, rfl, lwb, hwc⟩ := IW2.out.cell (by rw [NW.out]; omega)
              have wc1 := hwc k (by rw [NW.out]; exact hkn)
              obtain ⟨z, hz⟩ : ∃ z, wrg.getD k 0 = z := ⟨_, rfl⟩
              rw [hz] at wc1
              have wz := WW.out z (by rw [← hz, List.getD_eq_getElem?_getD, List.getElem?_eq_getElem (by rw [NW.out]; exact hkn)]; exact List.getElem_mem _)
              have PZ := Lib.hid (fun w => show Calls Try.prog 20 #[.int .i64 z, .int .i64 32] w (fun e w' => e = .returned (.int .i64 ((z % (32 : Int)).toNat : Nat)) ∧ w = w') from pick_any z wz 32 (by omega) (by omega) w)
              have p32 : (z % (32 : Int)).toNat < 32 := by omega
              obtain ⟨p, hp⟩ : ∃ x, (z % (32 : Int)).toNat = x := ⟨_, rfl⟩
              rw [hp] at PZ p32
              obtain ⟨v, hv⟩ : ∃ v, vs0[p]? = some v := ⟨vs0[p]'(by rw [LK.out]; exact p32), List.getElem?_eq_getElem _⟩
              have v7 := SK.out v (List.mem_of_getElem? hv)
              have cp := OK.out.cellAt p (by omega)
              have fp := OK.out.frozenAt p
              rw [List.getElem?_map, hv, Option.map_some] at cp
              have nb : IntKind.i64.wrap (-v) = -v := by rw [IntKind.wrap_i64]; omega
              have k1 : (k : Int) < (nw : Int) := by omega
              have q1 : (p : Int) < 32 := by omega
              have ON := Lib.hid (show (wk.setCell ⟨g, p, none⟩ (.int .i64 (-v))).ownsRow (wr.heap.size + 1) 3 1 (.slice (some ⟨g, 0, none⟩) 32 gc) 32 ((vs0.set p (-v)).map (Value.int .i64)) by
                rw [List.map_set]
                exact (OK.out.stored p (.int .i64 (-v))).1)
              have SN := Lib.hid (show ∀ z' ∈ vs0.set p (-v), z' = 7 ∨ z' = -7 from fun z' hz' => by
                rcases List.mem_or_eq_of_mem_set hz' with h | h
                · exact SK.out z' h
                · omega)
              have LN := Lib.hid (show (vs0.set p (-v)).length = 32 by rw [List.length_set]; exact LK.out)
              have BN := Lib.hid (BK.out.setCell (p := ⟨g, p, none⟩) (own_block_ge OK.out rfl) (.int .i64 (-v)))
              clear hwc hz wz hp hv v7 OV SV LV0 BV
              go_wp2_with fail
              (with_reducible refine (PZ.out _).mono ?_)
              rintro e w7 ⟨rfl, rfl⟩
              go_wp2_with fail
              go_roundw
              case rel => exact ⟨k + 1, _, by omega, by go_num, ON.out, SN.out, LN.out, BN.out⟩
              case measure => simp [intOf]; omega
            · have t6 : decide ((k : Int) < 32) = false := by simp; omega
              go_wp2_with fail
              clear OK SK BK LK
              go_loopw [8, 11] (fun v k wl => ∃ (kk : Nat) (vs : List Int), kk ≤ len ∧ k = .int .i64 (kk : Nat) ∧ wl.ownsRow (wr.heap.size + 1) 3 1 v vs.length (vs.map (Value.int .i64)) ∧ (∀ z ∈ vs, -8 ≤ z ∧ z ≤ 7) ∧ vs.length ≤ 32 + kk ∧ Below (wr.heap.size + 1) W1 wl) (fun _ k _ => len - (intOf k).toNat)
              case atStart => exact ⟨0, vs0, Nat.zero_le _, rfl, OV.out, SV.out, by have := LV0.out; omega, BV.out⟩
              case round =>
                obtain ⟨kk, vs, hkk, rfl, hov, hsv, hlv, hbv⟩ := hrel
                rename World => wl
                have OV2 := Lib.hid hov
                have SV2 := Lib.hid hsv
                have BV2 := Lib.hid hbv
                have HL2 := Lib.hid hlv
                have vl2 : vs.length ≤ 332 := by omega
                have k1 := (hbv.cell (p := ⟨wr.heap.size, 1, none⟩) lX).trans X1.out
                have k3 := (hbv.cell (p := ⟨wr.heap.size, 3, none⟩) lX).trans X3.out
                have IV2 := Lib.hid (IV.out.below (HW1.out.trans (hbv.mono (Nat.le_succ _))))
                clear hov hsv hbv hlv
                by_cases hkl : kk < len
                · have t2 : decide ((kk : Int) < (len : Int)) = true := by simp; omega
                  by_cases hnv0 : 0 < nv
                  · have t3 : decide ((0 : Int) < (nv : Int)) = true := by simp; omega
                    obtain ⟨vb, vo, rfl, lvb, hvc⟩ := IV2.out.cell (by rw [NV.out]; exact hnv0)
                    obtain ⟨q, hq⟩ : ∃ q, kk % nv = q := ⟨_, rfl⟩
                    have qn : q < nv := by rw [← hq]; exact Nat.mod_lt _ hnv0
                    have em : (kk : Int).tmod (nv : Int) = (q : Int) := by rw [← hq]; exact (Int.ofNat_tmod kk nv).symm
                    have vc1 := hvc q (by rw [NV.out]; exact qn)
                    obtain ⟨z, hz⟩ : ∃ z, vals.getD q 0 = z := ⟨_, rfl⟩
                    rw [hz] at vc1
                    have wz := WV.out z (by rw [← hz, List.getD_eq_getElem?_getD, List.getElem?_eq_getElem (by rw [NV.out]; exact qn)]; exact List.getElem_mem _)
                    have PZ := Lib.hid (fun w => show Calls Try.prog 20 #[.int .i64 z, .int .i64 16] w (fun e w' => e = .returned (.int .i64 ((z % (16 : Int)).toNat : Nat)) ∧ w = w') from pick_any z wz 16 (by omega) (by omega) w)
                    have p16 : (z % (16 : Int)).toNat < 16 := by omega
                    obtain ⟨pz, hpz⟩ : ∃ x, (z % (16 : Int)).toNat = x := ⟨_, rfl⟩
                    rw [hpz] at PZ p16
                    have nv1 : (nv : Int) ≠ 0 := by omega
                    have q1 : (q : Int) < (nv : Int) := by omega
                    obtain ⟨y, hy⟩ : ∃ y, (pz : Int) - 8 = y := ⟨_, rfl⟩
                    have yb : -8 ≤ y ∧ y ≤ 7 := by omega
                    have BQ := Lib.hid (fun nq => below_drewN (Below.refl wl.heap.size wl) nq)
                    clear hq hvc hz hpz wz
                    go_wp2_with (go_quiet (fail))
                    (with_reducible refine (PZ.out _).mono ?_)
                    rintro e w7 ⟨rfl, rfl⟩
                    have BA := Lib.hid ((below_drewN BV2.out nq).alloc (show wr.heap.size + 1 ≤ (wl.drewN nq).heap.size by have := BV2.out.size; rw [sW] at this; exact this) (.cells #[.int .i64 y] 3))
                    have OA := Lib.hid ((own_below OV2.out (BQ.out nq)).alloc (.cells #[.int .i64 y] 3))
                    go_wp2_with (at_builtin; refine wpList_append_own _ rfl _ _ 29 rfl (wr.heap.size + 1) 3 i0 (.int .i64 0) 1 8 Try.underlying29 hi0 hz0 hz1 hz2 rfl (by decide) _ _ _ rfl OA.out ⟨wl.heap.size, 0, none⟩ 1 1 [.int .i64 y] rfl rfl cell_one (by simp [Value.oneCell']) (by unfold maxLen; omega) (by omega) (by have := BA.out.size; rw [sW] at this; exact this) ?_; intro v8 w8 hown8 hgrow8 _; have O8 := Lib.hid hown8; have B8 := Lib.hid (BA.out.grown hgrow8 (by have := BA.out.size; rw [sW] at this; exact this) (fun k e => own_block_ge OV2.out e)); clear hown8 hgrow8)
                    go_roundw
                    case rel => exact ⟨kk + 1, vs ++ [y], by omega, by go_num, by rw [List.length_append, List.map_append]; exact O8.out, fun z' hz' => by
                      rcases List.mem_append.1 hz' with h | h
                      · exact SV2.out z' h
                      · simp at h
                        omega, by rw [List.length_append]; have := HL2.out; simp only [List.length_singleton]; omega, B8.out⟩
                    case measure => simp [intOf]; omega
                  · have t3 : decide ((0 : Int) < (nv : Int)) = false := by simp; omega
                    have PC := Lib.hid (fun w => show Calls Try.prog 20 #[.int .i64 cut, .int .i64 3] w (fun e w' => e = .returned (.int .i64 ((cut % (3 : Int)).toNat : Nat)) ∧ w = w') from pick_any cut WC.out 3 (by omega) (by omega) w)
                    have pc3 : (cut % (3 : Int)).toNat < 3 := by omega
                    obtain ⟨pc, hpc⟩ : ∃ x, (cut % (3 : Int)).toNat = x := ⟨_, rfl⟩
                    rw [hpc] at PC pc3
                    obtain ⟨ma, mc, rfl⟩ := own_is OV2.out
                    obtain ⟨ml, hml⟩ : ∃ x, vs.length = x := ⟨_, rfl⟩
                    have ML := Lib.hid hml
                    rw [hml] at HL2 OV2 ⊢
                    clear hpc hml
                    obtain ⟨mn, hmn⟩ : ∃ x, min ml pc = x := ⟨_, rfl⟩
                    have mn1 : min (ml : Int) (pc : Int) = (mn : Int) := by omega
                    have mnl : mn ≤ ml := by omega
                    obtain ⟨mk, hmk⟩ : ∃ x, ml - mn = x := ⟨_, rfl⟩
                    have mk1 : (ml : Int) - (mn : Int) = (mk : Int) := by omega
                    have mkl : mk ≤ ml := by omega
                    have HT := Lib.hid (HW1.out.trans (BV2.out.mono (Nat.le_succ _)))
                    have HO2 := Lib.hid (own_below HO.out HT.out)
                    have BT := Lib.hid (HB.out.trans (HT.out.mono HB.out.size))
                    have zb : zs.length ≤ 10000 := by omega
                    have ZB := Lib.hid hzl
                    clear hmn hmk hzl
                    rcases OV2.out.2 with ⟨hv, h0⟩ | ⟨g, c, cur, hv, hb, hg, hc, hm, hsz, ht⟩
                    · simp only [Value.slice.injEq] at hv
                      obtain ⟨rfl, rfl, rfl⟩ := hv
                      obtain rfl : mk = 0 := by omega
                      obtain rfl : mn = 0 := by omega
                      have m0 : min (0 : Int) (pc : Int) = 0 := by omega
                      have ZB2 := Lib.hid (show zs.length ≤ 332 * (i + 1) by have := ZB.out; omega)
                      go_wp2_with fail
                      (with_reducible refine (PC.out _).mono ?_)
                      rintro e w7 ⟨rfl, rfl⟩
                      rcases HO2.out.2 with ⟨hv2, h02⟩ | ⟨og, oc, ocur, hv2, _, _, hoc, _⟩
                      · subst hv2
                        obtain rfl : zs = [] := List.eq_nil_of_length_eq_zero h02
                        go_wp2_with fail
                        go_roundw
                        case rel => exact ⟨i + 1, [], by omega, by go_num, HO2.out, HS.out, ZB2.out, BT.out⟩
                        case measure => simp [intOf]; omega
                      · subst hv2
                        obtain ⟨zn, hzn⟩ : ∃ x, zs.length = x := ⟨_, rfl⟩
                        rw [hzn] at hoc
                        have HO3 := Lib.hid HO2.out
                        rw [hzn] at HO3 ⊢
                        have ZN := Lib.hid hzn
                        clear hzn
                        go_wp2_with fail
                        go_roundw
                        case rel => exact ⟨i + 1, zs, by omega, by go_num, by rw [ZN.out]; exact HO3.out, HS.out, ZB2.out, BT.out⟩
                        case measure => simp [intOf]; omega
                    · simp only [Value.slice.injEq] at hv
                      obtain ⟨rfl, _, rfl⟩ := hv
                      have SC := Lib.hid (fun j u hu => OV2.out.cells (g := g) rfl j u hu)
                      have TK := Lib.hid (show (vs.take mk).length = mk by rw [List.length_take, ML.out]; omega)
                      have ZB2 := Lib.hid (show zs.length + mk ≤ 332 * (i + 1) by have := ZB.out; have := HL2.out; omega)
                      have mkb : mk ≤ 400 := by have := HL2.out; omega
                      go_wp2_with fail
                      (with_reducible refine (PC.out _).mono ?_)
                      rintro e w7 ⟨rfl, rfl⟩
                      go_wp2_with (at_builtin; refine wpList_append_own _ rfl _ _ 29 rfl w.heap.size 3 i0 (.int .i64 0) 1 8 Try.underlying29 hi0 hz0 hz1 hz2 rfl (by decide) _ _ _ rfl HO2.out ⟨g, 0, none⟩ mk _ ((vs.take mk).map (Value.int .i64)) rfl (by rw [List.length_map, TK.out, Nat.mul_one]) (fun j u hu => SC.out j u (by rw [List.map_take] at hu; exact take_some hu)) (fun u hu => by obtain ⟨q, _, rfl⟩ := List.mem_map.1 hu; simp [Value.oneCell']) (by unfold maxLen; omega) (by omega) BT.out.size ?_; intro v8 w8 hown8 hgrow8 _; have O8 := Lib.hid hown8; have B8 := Lib.hid (BT.out.grown hgrow8 BT.out.size (fun k e => own_block_ge HO2.out e)); clear hown8 hgrow8)
                      go_roundw
                      case rel => exact ⟨i + 1, zs ++ vs.take mk, by omega, by go_num, by rw [List.length_append, TK.out, List.map_append]; exact O8.out, fun z' hz' => by
                        rcases List.mem_append.1 hz' with h | h
                        · exact HS.out z' h
                        · exact SV2.out z' (List.mem_of_mem_take h), by rw [List.length_append, TK.out]; exact ZB2.out, B8.out⟩
                      case measure => simp [intOf]; omega
                · have t2 : decide ((kk : Int) < (len : Int)) = false := by simp; omega
                  have PC := Lib.hid (fun w => show Calls Try.prog 20 #[.int .i64 cut, .int .i64 3] w (fun e w' => e = .returned (.int .i64 ((cut % (3 : Int)).toNat : Nat)) ∧ w = w') from pick_any cut WC.out 3 (by omega) (by omega) w)
                  have pc3 : (cut % (3 : Int)).toNat < 3 := by omega
                  obtain ⟨pc, hpc⟩ : ∃ x, (cut % (3 : Int)).toNat = x := ⟨_, rfl⟩
                  rw [hpc] at PC pc3
                  obtain ⟨ma, mc, rfl⟩ := own_is OV2.out
                  obtain ⟨ml, hml⟩ : ∃ x, vs.length = x := ⟨_, rfl⟩
                  have ML := Lib.hid hml
                  rw [hml] at HL2 OV2 ⊢
                  clear hpc hml
                  obtain ⟨mn, hmn⟩ : ∃ x, min ml pc = x := ⟨_, rfl⟩
                  have mn1 : min (ml : Int) (pc : Int) = (mn : Int) := by omega
                  have mnl : mn ≤ ml := by omega
                  obtain ⟨mk, hmk⟩ : ∃ x, ml - mn = x := ⟨_, rfl⟩
                  have mk1 : (ml : Int) - (mn : Int) = (mk : Int) := by omega
                  have mkl : mk ≤ ml := by omega
                  have HT := Lib.hid (HW1.out.trans (BV2.out.mono (Nat.le_succ _)))
                  have HO2 := Lib.hid (own_below HO.out HT.out)
                  have BT := Lib.hid (HB.out.trans (HT.out.mono HB.out.size))
                  have zb : zs.length ≤ 10000 := by omega
                  have ZB := Lib.hid hzl
                  clear hmn hmk hzl
                  rcases OV2.out.2 with ⟨hv, h0⟩ | ⟨g, c, cur, hv, hb, hg, hc, hm, hsz, ht⟩
                  · simp only [Value.slice.injEq] at hv
                    obtain ⟨rfl, rfl, rfl⟩ := hv
                    obtain rfl : mk = 0 := by omega
                    obtain rfl : mn = 0 := by omega
                    have m0 : min (0 : Int) (pc : Int) = 0 := by omega
                    have ZB2 := Lib.hid (show zs.length ≤ 332 * (i + 1) by have := ZB.out; omega)
                    go_wp2_with fail
                    (with_reducible refine (PC.out _).mono ?_)
                    rintro e w7 ⟨rfl, rfl⟩
                    rcases HO2.out.2 with ⟨hv2, h02⟩ | ⟨og, oc, ocur, hv2, _, _, hoc, _⟩
                    · subst hv2
                      obtain rfl : zs = [] := List.eq_nil_of_length_eq_zero h02
                      go_wp2_with fail
                      go_roundw
                      case rel => exact ⟨i + 1, [], by omega, by go_num, HO2.out, HS.out, ZB2.out, BT.out⟩
                      case measure => simp [intOf]; omega
                    · subst hv2
                      obtain ⟨zn, hzn⟩ : ∃ x, zs.length = x := ⟨_, rfl⟩
                      rw [hzn] at hoc
                      have HO3 := Lib.hid HO2.out
                      rw [hzn] at HO3 ⊢
                      have ZN := Lib.hid hzn
                      clear hzn
                      go_wp2_with fail
                      go_roundw
                      case rel => exact ⟨i + 1, zs, by omega, by go_num, by rw [ZN.out]; exact HO3.out, HS.out, ZB2.out, BT.out⟩
                      case measure => simp [intOf]; omega
                  · simp only [Value.slice.injEq] at hv
                    obtain ⟨rfl, _, rfl⟩ := hv
                    have SC := Lib.hid (fun j u hu => OV2.out.cells (g := g) rfl j u hu)
                    have TK := Lib.hid (show (vs.take mk).length = mk by rw [List.length_take, ML.out]; omega)
                    have ZB2 := Lib.hid (show zs.length + mk ≤ 332 * (i + 1) by have := ZB.out; have := HL2.out; omega)
                    have mkb : mk ≤ 400 := by have := HL2.out; omega
                    go_wp2_with fail
                    (with_reducible refine (PC.out _).mono ?_)
                    rintro e w7 ⟨rfl, rfl⟩
                    go_wp2_with (at_builtin; refine wpList_append_own _ rfl _ _ 29 rfl w.heap.size 3 i0 (.int .i64 0) 1 8 Try.underlying29 hi0 hz0 hz1 hz2 rfl (by decide) _ _ _ rfl HO2.out ⟨g, 0, none⟩ mk _ ((vs.take mk).map (Value.int .i64)) rfl (by rw [List.length_map, TK.out, Nat.mul_one]) (fun j u hu => SC.out j u (by rw [List.map_take] at hu; exact take_some hu)) (fun u hu => by obtain ⟨q, _, rfl⟩ := List.mem_map.1 hu; simp [Value.oneCell']) (by unfold maxLen; omega) (by omega) BT.out.size ?_; intro v8 w8 hown8 hgrow8 _; have O8 := Lib.hid hown8; have B8 := Lib.hid (BT.out.grown hgrow8 BT.out.size (fun k e => own_block_ge HO2.out e)); clear hown8 hgrow8)
                    go_roundw
                    case rel => exact ⟨i + 1, zs ++ vs.take mk, by omega, by go_num, by rw [List.length_append, TK.out, List.map_append]; exact O8.out, fun z' hz' => by
                      rcases List.mem_append.1 hz' with h | h
                      · exact HS.out z' h
                      · exact SV2.out z' (List.mem_of_mem_take h), by rw [List.length_append, TK.out]; exact ZB2.out, B8.out⟩
                    case measure => simp [intOf]; omega
          · have t5 : decide ((k : Int) < (nw : Int)) = false := by simp; omega
            go_wp2_with fail
            clear OK SK BK LK
            go_loopw [8, 11] (fun v k wl => ∃ (kk : Nat) (vs : List Int), kk ≤ len ∧ k = .int .i64 (kk : Nat) ∧ wl.ownsRow (wr.heap.size + 1) 3 1 v vs.length (vs.map (Value.int .i64)) ∧ (∀ z ∈ vs, -8 ≤ z ∧ z ≤ 7) ∧ vs.length ≤ 32 + kk ∧ Below (wr.heap.size + 1) W1 wl) (fun _ k _ => len - (intOf k).toNat)
            case atStart => exact ⟨0, vs0, Nat.zero_le _, rfl, OV.out, SV.out, by have := LV0.out; omega, BV.out⟩
            case round =>
              obtain ⟨kk, vs, hkk, rfl, hov, hsv, hlv, hbv⟩ := hrel
              rename World => wl
              have OV2 := Lib.hid hov
              have SV2 := Lib.hid hsv
              have BV2 := Lib.hid hbv
              have HL2 := Lib.hid hlv
              have vl2 : vs.length ≤ 332 := by omega
              have k1 := (hbv.cell (p := ⟨wr.heap.size, 1, none⟩) lX).trans X1.out
              have k3 := (hbv.cell (p := ⟨wr.heap.size, 3, none⟩) lX).trans X3.out
              have IV2 := Lib.hid (IV.out.below (HW1.out.trans (hbv.mono (Nat.le_succ _))))
              clear hov hsv hbv hlv
              by_cases hkl : kk < len
              · have t2 : decide ((kk : Int) < (len : Int)) = true := by simp; omega
                by_cases hnv0 : 0 < nv
                · have t3 : decide ((0 : Int) < (nv : Int)) = true := by simp; omega
                  obtain ⟨vb, vo, rfl, lvb, hvc⟩ := IV2.out.cell (by rw [NV.out]; exact hnv0)
                  obtain ⟨q, hq⟩ : ∃ q, kk % nv = q := ⟨_, rfl⟩
                  have qn : q < nv := by rw [← hq]; exact Nat.mod_lt _ hnv0
                  have em : (kk : Int).tmod (nv : Int) = (q : Int) := by rw [← hq]; exact (Int.ofNat_tmod kk nv).symm
                  have vc1 := hvc q (by rw [NV.out]; exact qn)
                  obtain ⟨z, hz⟩ : ∃ z, vals.getD q 0 = z := ⟨_, rfl⟩
                  rw [hz] at vc1
                  have wz := WV.out z (by rw [← hz, List.getD_eq_getElem?_getD, List.getElem?_eq_getElem (by rw [NV.out]; exact qn)]; exact List.getElem_mem _)
                  have PZ := Lib.hid (fun w => show Calls Try.prog 20 #[.int .i64 z, .int .i64 16] w (fun e w' => e = .returned (.int .i64 ((z % (16 : Int)).toNat : Nat)) ∧ w = w') from pick_any z wz 16 (by omega) (by omega) w)
                  have p16 : (z % (16 : Int)).toNat < 16 := by omega
                  obtain ⟨pz, hpz⟩ : ∃ x, (z % (16 : Int)).toNat = x := ⟨_, rfl⟩
                  rw [hpz] at PZ p16
                  have nv1 : (nv : Int) ≠ 0 := by omega
                  have q1 : (q : Int) < (nv : Int) := by omega
                  obtain ⟨y, hy⟩ : ∃ y, (pz : Int) - 8 = y := ⟨_, rfl⟩
                  have yb : -8 ≤ y ∧ y ≤ 7 := by omega
                  have BQ := Lib.hid (fun nq => below_drewN (Below.refl wl.heap.size wl) nq)
                  clear hq hvc hz hpz wz
                  go_wp2_with (go_quiet (fail))
                  (with_reducible refine (PZ.out _).mono ?_)
                  rintro e w7 ⟨rfl, rfl⟩
                  have BA := Lib.hid ((below_drewN BV2.out nq).alloc (show wr.heap.size + 1 ≤ (wl.drewN nq).heap.size by have := BV2.out.size; rw [sW] at this; exact this) (.cells #[.int .i64 y] 3))
                  have OA := Lib.hid ((own_below OV2.out (BQ.out nq)).alloc (.cells #[.int .i64 y] 3))
                  go_wp2_with (at_builtin; refine wpList_append_own _ rfl _ _ 29 rfl (wr.heap.size + 1) 3 i0 (.int .i64 0) 1 8 Try.underlying29 hi0 hz0 hz1 hz2 rfl (by decide) _ _ _ rfl OA.out ⟨wl.heap.size, 0, none⟩ 1 1 [.int .i64 y] rfl rfl cell_one (by simp [Value.oneCell']) (by unfold maxLen; omega) (by omega) (by have := BA.out.size; rw [sW] at this; exact this) ?_; intro v8 w8 hown8 hgrow8 _; have O8 := Lib.hid hown8; have B8 := Lib.hid (BA.out.grown hgrow8 (by have := BA.out.size; rw [sW] at this; exact this) (fun k e => own_block_ge OV2.out e)); clear hown8 hgrow8)
                  go_roundw
                  case rel => exact ⟨kk + 1, vs ++ [y], by omega, by go_num, by rw [List.length_append, List.map_append]; exact O8.out, fun z' hz' => by
                    rcases List.mem_append.1 hz' with h | h
                    · exact SV2.out z' h
                    · simp at h
                      omega, by rw [List.length_append]; have := HL2.out; simp only [List.length_singleton]; omega, B8.out⟩
                  case measure => simp [intOf]; omega
                · have t3 : decide ((0 : Int) < (nv : Int)) = false := by simp; omega
                  have PC := Lib.hid (fun w => show Calls Try.prog 20 #[.int .i64 cut, .int .i64 3] w (fun e w' => e = .returned (.int .i64 ((cut % (3 : Int)).toNat : Nat)) ∧ w = w') from pick_any cut WC.out 3 (by omega) (by omega) w)
                  have pc3 : (cut % (3 : Int)).toNat < 3 := by omega
                  obtain ⟨pc, hpc⟩ : ∃ x, (cut % (3 : Int)).toNat = x := ⟨_, rfl⟩
                  rw [hpc] at PC pc3
                  obtain ⟨ma, mc, rfl⟩ := own_is OV2.out
                  obtain ⟨ml, hml⟩ : ∃ x, vs.length = x := ⟨_, rfl⟩
                  have ML := Lib.hid hml
                  rw [hml] at HL2 OV2 ⊢
                  clear hpc hml
                  obtain ⟨mn, hmn⟩ : ∃ x, min ml pc = x := ⟨_, rfl⟩
                  have mn1 : min (ml : Int) (pc : Int) = (mn : Int) := by omega
                  have mnl : mn ≤ ml := by omega
                  obtain ⟨mk, hmk⟩ : ∃ x, ml - mn = x := ⟨_, rfl⟩
                  have mk1 : (ml : Int) - (mn : Int) = (mk : Int) := by omega
                  have mkl : mk ≤ ml := by omega
                  have HT := Lib.hid (HW1.out.trans (BV2.out.mono (Nat.le_succ _)))
                  have HO2 := Lib.hid (own_below HO.out HT.out)
                  have BT := Lib.hid (HB.out.trans (HT.out.mono HB.out.size))
                  have zb : zs.length ≤ 10000 := by omega
                  have ZB := Lib.hid hzl
                  clear hmn hmk hzl
                  rcases OV2.out.2 with ⟨hv, h0⟩ | ⟨g, c, cur, hv, hb, hg, hc, hm, hsz, ht⟩
                  · simp only [Value.slice.injEq] at hv
                    obtain ⟨rfl, rfl, rfl⟩ := hv
                    obtain rfl : mk = 0 := by omega
                    obtain rfl : mn = 0 := by omega
                    have m0 : min (0 : Int) (pc : Int) = 0 := by omega
                    have ZB2 := Lib.hid (show zs.length ≤ 332 * (i + 1) by have := ZB.out; omega)
                    go_wp2_with fail
                    (with_reducible refine (PC.out _).mono ?_)
                    rintro e w7 ⟨rfl, rfl⟩
                    rcases HO2.out.2 with ⟨hv2, h02⟩ | ⟨og, oc, ocur, hv2, _, _, hoc, _⟩
                    · subst hv2
                      obtain rfl : zs = [] := List.eq_nil_of_length_eq_zero h02
                      go_wp2_with fail
                      go_roundw
                      case rel => exact ⟨i + 1, [], by omega, by go_num, HO2.out, HS.out, ZB2.out, BT.out⟩
                      case measure => simp [intOf]; omega
                    · subst hv2
                      obtain ⟨zn, hzn⟩ : ∃ x, zs.length = x := ⟨_, rfl⟩
                      rw [hzn] at hoc
                      have HO3 := Lib.hid HO2.out
                      rw [hzn] at HO3 ⊢
                      have ZN := Lib.hid hzn
                      clear hzn
                      go_wp2_with fail
                      go_roundw
                      case rel => exact ⟨i + 1, zs, by omega, by go_num, by rw [ZN.out]; exact HO3.out, HS.out, ZB2.out, BT.out⟩
                      case measure => simp [intOf]; omega
                  · simp only [Value.slice.injEq] at hv
                    obtain ⟨rfl, _, rfl⟩ := hv
                    have SC := Lib.hid (fun j u hu => OV2.out.cells (g := g) rfl j u hu)
                    have TK := Lib.hid (show (vs.take mk).length = mk by rw [List.length_take, ML.out]; omega)
                    have ZB2 := Lib.hid (show zs.length + mk ≤ 332 * (i + 1) by have := ZB.out; have := HL2.out; omega)
                    have mkb : mk ≤ 400 := by have := HL2.out; omega
                    go_wp2_with fail
                    (with_reducible refine (PC.out _).mono ?_)
                    rintro e w7 ⟨rfl, rfl⟩
                    go_wp2_with (at_builtin; refine wpList_append_own _ rfl _ _ 29 rfl w.heap.size 3 i0 (.int .i64 0) 1 8 Try.underlying29 hi0 hz0 hz1 hz2 rfl (by decide) _ _ _ rfl HO2.out ⟨g, 0, none⟩ mk _ ((vs.take mk).map (Value.int .i64)) rfl (by rw [List.length_map, TK.out, Nat.mul_one]) (fun j u hu => SC.out j u (by rw [List.map_take] at hu; exact take_some hu)) (fun u hu => by obtain ⟨q, _, rfl⟩ := List.mem_map.1 hu; simp [Value.oneCell']) (by unfold maxLen; omega) (by omega) BT.out.size ?_; intro v8 w8 hown8 hgrow8 _; have O8 := Lib.hid hown8; have B8 := Lib.hid (BT.out.grown hgrow8 BT.out.size (fun k e => own_block_ge HO2.out e)); clear hown8 hgrow8)
                    go_roundw
                    case rel => exact ⟨i + 1, zs ++ vs.take mk, by omega, by go_num, by rw [List.length_append, TK.out, List.map_append]; exact O8.out, fun z' hz' => by
                      rcases List.mem_append.1 hz' with h | h
                      · exact HS.out z' h
                      · exact SV2.out z' (List.mem_of_mem_take h), by rw [List.length_append, TK.out]; exact ZB2.out, B8.out⟩
                    case measure => simp [intOf]; omega
              · have t2 : decide ((kk : Int) < (len : Int)) = false := by simp; omega
                have PC := Lib.hid (fun w => show Calls Try.prog 20 #[.int .i64 cut, .int .i64 3] w (fun e w' => e = .returned (.int .i64 ((cut % (3 : Int)).toNat : Nat)) ∧ w = w') from pick_any cut WC.out 3 (by omega) (by omega) w)
                have pc3 : (cut % (3 : Int)).toNat < 3 := by omega
                obtain ⟨pc, hpc⟩ : ∃ x, (cut % (3 : Int)).toNat = x := ⟨_, rfl⟩
                rw [hpc] at PC pc3
                obtain ⟨ma, mc, rfl⟩ := own_is OV2.out
                obtain ⟨ml, hml⟩ : ∃ x, vs.length = x := ⟨_, rfl⟩
                have ML := Lib.hid hml
                rw [hml] at HL2 OV2 ⊢
                clear hpc hml
                obtain ⟨mn, hmn⟩ : ∃ x, min ml pc = x := ⟨_, rfl⟩
                have mn1 : min (ml : Int) (pc : Int) = (mn : Int) := by omega
                have mnl : mn ≤ ml := by omega
                obtain ⟨mk, hmk⟩ : ∃ x, ml - mn = x := ⟨_, rfl⟩
                have mk1 : (ml : Int) - (mn : Int) = (mk : Int) := by omega
                have mkl : mk ≤ ml := by omega
                have HT := Lib.hid (HW1.out.trans (BV2.out.mono (Nat.le_succ _)))
                have HO2 := Lib.hid (own_below HO.out HT.out)
                have BT := Lib.hid (HB.out.trans (HT.out.mono HB.out.size))
                have zb : zs.length ≤ 10000 := by omega
                have ZB := Lib.hid hzl
                clear hmn hmk hzl
                rcases OV2.out.2 with ⟨hv, h0⟩ | ⟨g, c, cur, hv, hb, hg, hc, hm, hsz, ht⟩
                · simp only [Value.slice.injEq] at hv
                  obtain ⟨rfl, rfl, rfl⟩ := hv
                  obtain rfl : mk = 0 := by omega
                  obtain rfl : mn = 0 := by omega
                  have m0 : min (0 : Int) (pc : Int) = 0 := by omega
                  have ZB2 := Lib.hid (show zs.length ≤ 332 * (i + 1) by have := ZB.out; omega)
                  go_wp2_with fail
                  (with_reducible refine (PC.out _).mono ?_)
                  rintro e w7 ⟨rfl, rfl⟩
                  rcases HO2.out.2 with ⟨hv2, h02⟩ | ⟨og, oc, ocur, hv2, _, _, hoc, _⟩
                  · subst hv2
                    obtain rfl : zs = [] := List.eq_nil_of_length_eq_zero h02
                    go_wp2_with fail
                    go_roundw
                    case rel => exact ⟨i + 1, [], by omega, by go_num, HO2.out, HS.out, ZB2.out, BT.out⟩
                    case measure => simp [intOf]; omega
                  · subst hv2
                    obtain ⟨zn, hzn⟩ : ∃ x, zs.length = x := ⟨_, rfl⟩
                    rw [hzn] at hoc
                    have HO3 := Lib.hid HO2.out
                    rw [hzn] at HO3 ⊢
                    have ZN := Lib.hid hzn
                    clear hzn
                    go_wp2_with fail
                    go_roundw
                    case rel => exact ⟨i + 1, zs, by omega, by go_num, by rw [ZN.out]; exact HO3.out, HS.out, ZB2.out, BT.out⟩
                    case measure => simp [intOf]; omega
                · simp only [Value.slice.injEq] at hv
                  obtain ⟨rfl, _, rfl⟩ := hv
                  have SC := Lib.hid (fun j u hu => OV2.out.cells (g := g) rfl j u hu)
                  have TK := Lib.hid (show (vs.take mk).length = mk by rw [List.length_take, ML.out]; omega)
                  have ZB2 := Lib.hid (show zs.length + mk ≤ 332 * (i + 1) by have := ZB.out; have := HL2.out; omega)
                  have mkb : mk ≤ 400 := by have := HL2.out; omega
                  go_wp2_with fail
                  (with_reducible refine (PC.out _).mono ?_)
                  rintro e w7 ⟨rfl, rfl⟩
                  go_wp2_with (at_builtin; refine wpList_append_own _ rfl _ _ 29 rfl w.heap.size 3 i0 (.int .i64 0) 1 8 Try.underlying29 hi0 hz0 hz1 hz2 rfl (by decide) _ _ _ rfl HO2.out ⟨g, 0, none⟩ mk _ ((vs.take mk).map (Value.int .i64)) rfl (by rw [List.length_map, TK.out, Nat.mul_one]) (fun j u hu => SC.out j u (by rw [List.map_take] at hu; exact take_some hu)) (fun u hu => by obtain ⟨q, _, rfl⟩ := List.mem_map.1 hu; simp [Value.oneCell']) (by unfold maxLen; omega) (by omega) BT.out.size ?_; intro v8 w8 hown8 hgrow8 _; have O8 := Lib.hid hown8; have B8 := Lib.hid (BT.out.grown hgrow8 BT.out.size (fun k e => own_block_ge HO2.out e)); clear hown8 hgrow8)
                  go_roundw
                  case rel => exact ⟨i + 1, zs ++ vs.take mk, by omega, by go_num, by rw [List.length_append, TK.out, List.map_append]; exact O8.out, fun z' hz' => by
                    rcases List.mem_append.1 hz' with h | h
                    · exact HS.out z' h
                    · exact SV2.out z' (List.mem_of_mem_take h), by rw [List.length_append, TK.out]; exact ZB2.out, B8.out⟩
                  case measure => simp [intOf]; omega
    · obtain rfl : i = n := by omega
      have t1 : decide ((i : Int) < (i : Int)) = false := by simp
      have ZB := Lib.hid hzl
      go_wp2_with fail
      go_ret
      exact ⟨_, zs, rfl, HO.out, HS.out, ZB.out, HB.out⟩
end Go.Proofs.Ytlfnglinalmpjaa
