/- TmLWhole -/
import Derived.Test.YtgcjfiablcjfgaaTmWh
import Derived.Test.YtgcjfiablcjfgaaIntsKit
import Derived.Test.YtgcjfiablcjfgaaTmArg
import Derived.ProofKit
/- TmframeWhole: the fields of a filler, one after the other, are its packets, in order, and idle ones. No condition. -/
namespace Go.Proofs.Ytgcjfiablcjfgaa
open Go.ChangeShapes Go.WideShapes Go.ChangeAt Go.RowKit
set_option linter.unusedVariables false

namespace tmframeWhole
theorem flat_seven {T : List (Bool × List UInt8)} (h : ∀ x ∈ T, Tm.Pkd x) : 7 * T.length ≤ (Tm.flat T).length := by
  induction T with
  | nil => exact Nat.zero_le _
  | cons x T ih =>
    rw [Tm.flat_cons, List.length_append, List.length_cons]
    have := ih (fun y hy => h y (List.mem_cons_of_mem _ hy))
    have := (h x (List.mem_cons_self ..)).len
    omega
theorem cells_int1 : Try.prog.cellsOf 3 = 1 := by kernel_rfl
theorem build_int1 {ev : Operand → Value} {w : World} {o : Oper} {x : Operand} {s : Int} (h : o.op = .buildSlice 41 1 #[(0, x)]) (hx : ev x = .int .i64 s) : (execOp ev o).run Try.prog w = .ok (.value (.slice (some ⟨w.heap.size, 0, none⟩) 1 1)) (w.alloc (.cells ([.int .i64 s] : List Value).toArray 3)) := by
  simp only [execOp, h]; go_simp
set_option maxRecDepth 100000 in
set_option maxHeartbeats 32000000 in
theorem walk_long (k : Int) (hk : (Lit.int .i64 k).wf = true) (ao : Option Addr) (cap : Nat) (zs : List Int) (l1 : zs.length ≤ cap) (m1 : cap ≤ maxLen) (wf : ∀ x ∈ zs, (Lit.int .i64 x).wf = true) (a2 : Option Addr) (cap2 : Nat) (bs2 : List Bool) (l2 : bs2.length ≤ cap2) (m2 : cap2 ≤ maxLen) (w : World) (R1 : Reads .i64 w ao zs) (R2 : Bls w a2 bs2) (hl : 60 < zs.length) : Calls Try.prog 8 #[.int .i64 k, .slice ao zs.length cap, .slice a2 bs2.length cap2] w fun e w' => e = .returned (.bool true) ∧ Below w.heap.size w w' := by
  have SH := Lib.hid (fun w => tshown_any w)
  have t1 : decide (60 < (zs.length : Int)) = true := decide_eq_true (by omega)
  have t1n : decide (60 < zs.length) = true := decide_eq_true hl
  go_enter Try.func8, Try.ntmps8
  go_wp2_with fail
  (with_reducible refine (SH.out _).mono ?_)
  rintro e w1 ⟨rfl, h1⟩
  have B1 := Lib.hid h1
  clear h1
  go_wp2_with fail
  go_ret
  exact ⟨rfl, B1.out⟩
set_option maxRecDepth 100000 in
set_option maxHeartbeats 32000000 in
theorem walk_ok (k : Int) (hk : (Lit.int .i64 k).wf = true) (ao : Option Addr) (cap : Nat) (zs : List Int) (l1 : zs.length ≤ cap) (m1 : cap ≤ maxLen) (wf : ∀ x ∈ zs, (Lit.int .i64 x).wf = true) (a2 : Option Addr) (cap2 : Nat) (bs2 : List Bool) (l2 : bs2.length ≤ cap2) (m2 : cap2 ≤ maxLen) (w : World) (R1 : Reads .i64 w ao zs) (R2 : Bls w a2 bs2) (hl : zs.length ≤ 60) : Calls Try.prog 8 #[.int .i64 k, .slice ao zs.length cap, .slice a2 bs2.length cap2] w fun e w' => e = .returned (.bool true) ∧ Below w.heap.size w w' := by
  have SH := Lib.hid (fun w => tshown_any w)
  have PK : Hid (∀ w : World, Calls Try.prog 20 #[.int .i64 k, .int .i64 169] w fun e w' => e = .returned (.int .i64 ((k % 169).toNat : Nat)) ∧ w = w') := Lib.hid (fun w => pick_any k hk 169 (by omega) (by omega) w)
  have hk0 : (k % 169).toNat < 169 := by omega
  obtain ⟨k0, hk0'⟩ : ∃ k0, (k % 169).toNat = k0 := ⟨_, rfl⟩
  rw [hk0'] at PK hk0
  obtain ⟨n, hn⟩ : ∃ n, 32 + k0 = n := ⟨_, rfl⟩
  have x0 : (32 : Int) + (k0 : Int) = (n : Int) := by omega
  have x1 : IntKind.i64.wrap (n : Int) = (n : Int) := by rw [IntKind.wrap_i64]; omega
  have x2 : IntKind.i64.wrap ((32 : Int) + (k0 : Int)) = (n : Int) := by rw [IntKind.wrap_i64]; omega
  have HN := Lib.hid (show 32 ≤ n ∧ n ≤ 200 by omega)
  have NX := Lib.hid (fun w => tnew_any n HN.out.1 HN.out.2 w)
  have HR1 := Lib.hid R1
  have HR2 := Lib.hid R2
  have HWF := Lib.hid wf
  obtain ⟨N, hN⟩ : ∃ N, zs.length = N := ⟨_, rfl⟩
  have HZ := Lib.hid hN
  obtain ⟨M, hM⟩ : ∃ M, bs2.length = M := ⟨_, rfl⟩
  have HM := Lib.hid hM
  rw [hN] at hl ⊢
  rw [hM]
  have t1 : decide (60 < (N : Int)) = false := decide_eq_false (by omega)
  have t1n : decide (60 < N) = false := decide_eq_false (by omega)
  obtain ⟨i0, hi0, hz0, hz1, hz2⟩ := info_parts info_str
  obtain ⟨j0, hj0, hy0, hy1, hy2⟩ := info_parts info_int
  clear l1 m1 l2 m2 hk hk0' hn hN hM R1 R2 wf
  go_enter Try.func8, Try.ntmps8
  go_wp2_with fail
  (with_reducible refine (SH.out _).mono ?_)
  rintro e w1 ⟨rfl, h1⟩
  have B1 := Lib.hid h1
  clear h1
  go_wp2_with fail
  (with_reducible refine (PK.out _).mono ?_)
  rintro e w' ⟨rfl, rfl⟩
  go_wp2_with fail
  (refine (NX.out _).mono ?_)
  rintro e w2 ⟨X, rfl, P2, h2⟩
  obtain ⟨n1, hn1⟩ : ∃ n1, w1.heap.size = n1 := ⟨_, rfl⟩
  have WN1 := Lib.hid (show w.heap.size ≤ n1 by rw [← hn1]; exact B1.out.size)
  have L0 := Lib.hid (show LI w1 n1 X n s0 [] [] (.slice none 0 0) (.slice none 0 0) w2 from ⟨⟨_, _, ⟨_, _, _, by rw [← hn1]; exact P2, Tm.Rel.start⟩, fun g hg => by cases hg⟩, World.ownsRow_nil _ _ _ _, World.ownsRow_nil _ _ _ _, by rw [← hn1]; exact h2, by rw [← hn1]; exact h2.size⟩)
  clear P2 h2 hn1
  go_wp2_with fail
  go_loopw [10, 12, 13, 14] (fun x10 x12 x13 x14 wr => ∃ (i : Nat) (A : List (List UInt8)) (s : Tm.Fl) (T : List (Bool × List UInt8)) (out : List UInt8) (Fs : List Nat) (W : List ByteArray) (sv1 sv2 : Value), i ≤ N ∧ x14 = .int .i64 i ∧ x10 = .string (bs out) ∧ sv1 = x12 ∧ x13 = sv2 ∧ W = A.map bs ∧ Wh n i A s T out Fs ∧ out.length + s.re.length + Tm.wait s.q ≤ 306 * i ∧ LI w1 n1 X n s W Fs sv1 sv2 wr) (fun _ _ _ x14 _ => N - (intOf x14).toNat)
  case atStart => exact ⟨0, [], s0, [], [], [], [], _, _, Nat.zero_le _, rfl, rfl, rfl, rfl, rfl, Wh.start n, Nat.zero_le _, L0.out⟩
  case round =>
    obtain ⟨i, A, s, T, out, Fs, W, sv1, sv2, hi, rfl, rfl, rfl, rfl, hWA, hWh, hcb, hL⟩ := hrel
    have HWA := Lib.hid hWA
    have HWH := Lib.hid hWh
    have CB := Lib.hid hcb
    have L2 := Lib.hid hL
    have WL := Lib.hid (show W.length = i by rw [hWA, List.length_map]; exact hWh.al)
    obtain ⟨O, hO⟩ : ∃ O, bs out = O := ⟨_, rfl⟩
    have HO := Lib.hid hO
    have sO : O.size ≤ 20000 := by rw [← hO, bs_size]; omega
    rw [hO]
    clear hWA hWh hcb hO
    by_cases hlt : i < N
    · have HI1 := Lib.hid (show i + 1 ≤ N ∧ i + 1 ≤ 60 by omega)
      have GD := Lib.hid (HWH.out.gd (by omega))
      obtain ⟨z, hz⟩ : ∃ z, zs[i]? = some z := ⟨zs[i]'(by have := HZ.out; omega), List.getElem?_eq_getElem (by have := HZ.out; omega)⟩
      rcases HR1.out with e0 | ⟨B, off, rfl, hBl, hc⟩
      · rw [e0] at hz; cases hz
      have cz : wr.cell? ⟨B, off + i, none⟩ = some (.int .i64 z) := by
        have := hc i (by have := HZ.out; omega)
        rw [List.getD_eq_getElem?_getD, hz] at this
        exact ((B1.out.trans (hL.bl.mono WN1.out)).cell (p := ⟨B, off + i, none⟩) hBl).trans this
      have zw := HWF.out z (List.mem_of_getElem? hz)
      have PZ : Hid (∀ w : World, Calls Try.prog 20 #[.int .i64 z, .int .i64 300] w fun e w' => e = .returned (.int .i64 ((z % 300).toNat : Nat)) ∧ w = w') := Lib.hid (fun w => pick_any z zw 300 (by omega) (by omega) w)
      have hm0 : (z % 300).toNat < 300 := by omega
      obtain ⟨m0, hm0'⟩ : ∃ m0, (z % 300).toNat = m0 := ⟨_, rfl⟩
      rw [hm0'] at PZ hm0
      obtain ⟨m, hm⟩ : ∃ m, 7 + m0 = m := ⟨_, rfl⟩
      have y0 : (7 : Int) + (m0 : Int) = (m : Int) := by omega
      have y1 : IntKind.i64.wrap (m : Int) = (m : Int) := by rw [IntKind.wrap_i64]; omega
      have y2 : IntKind.i64.wrap ((7 : Int) + (m0 : Int)) = (m : Int) := by rw [IntKind.wrap_i64]; omega
      have m7 : 7 ≤ m := by omega
      have m306 : m ≤ 306 := by omega
      have MK := Lib.hid (fun w => lmade_any m m7 (by omega) w)
      obtain ⟨ac, aS⟩ := HWH.out.asS (by omega) m m7 m306
      have AWH := Lib.hid (HWH.out.add m m7 m306)
      have CBA := Lib.hid (show out.length + s.re.length + Tm.wait (s.q ++ [mk m]) ≤ 306 * (i + 1) by
        have := CB.out
        have l := mk_len m m7
        have : Tm.wait (s.q ++ [mk m]) = Tm.wait s.q + m := by unfold Tm.wait; rw [List.flatten_append, List.length_append, show [mk m].flatten = mk m by simp, l]
        omega)
      have SZ := Lib.hid (show (bs (mk m)).size ≤ 2000 by rw [bs_size, mk_len m m7]; omega)
      obtain ⟨P, hP⟩ : ∃ P, bs (mk m) = P := ⟨_, rfl⟩
      have HP := Lib.hid hP
      rw [hP] at MK ac aS SZ
      have k0' : (0 : Int) ≤ (i : Int) := by omega
      have k1' : (i : Int) < (N : Int) := by omega
      have AC := Lib.hid ac
      have AS := Lib.hid aS
      clear hz hc zw hm0' hm hP ac aS hlt hi hL
      go_wp2_with fail
      (with_reducible refine (PZ.out _).mono ?_)
      rintro e w' ⟨rfl, rfl⟩
      go_wp2_with fail
      (refine (MK.out _).mono ?_)
      rintro e w3 ⟨rfl, h3⟩
      have L3 := Lib.hid (L2.out.below h3)
      clear h3 cz
      have AD := L3.out.add GD.out P SZ.out
      rw [AC.out, AS.out] at AD
      go_wp2_with fail
      (refine AD.mono ?_)
      rintro e w4 ⟨rfl, L4'⟩
      have L4 := Lib.hid L4'
      have hn4 := Lib.hid L4'.hs
      clear L4' AD L3
      go_wp2_with (first
        | ((with_reducible refine atList ?_); refine wpList_newRow rfl (.buildSlice 61 1 #[(0, .tmp 64)]) rfl [.string P] 9 1 n1 rfl (by unfold maxLen; omega) hn4.out (build_strs1 rfl rfl) ?_; intro A5 w5 HA5 OA5 LA5)
        | (at_builtin; (with_reducible refine atList ?_); refine wpList_append_own2 rfl (.tmp 63) (.tmp 65) 61 rfl n1 9 i0 (.string ⟨#[]⟩) 1 16 Try.underlying61 hi0 hz0 hz1 hz2 rfl (by decide) _ W.length _ rfl (own_below L4.out.r1 LA5.out) ⟨A5, 0, none⟩ 1 1 [.string P] rfl rfl (row_cells OA5.out ⟨A5, 0, none⟩ rfl) (by simp [Value.oneCell']) (by unfold maxLen; have := WL.out; have := HI1.out; omega) (by have := WL.out; have := HI1.out; omega) (Nat.le_trans hn4.out LA5.out.size) ?_; intro v6 w6 O6 g6 k6; have L6 := Lib.hid (L4.out.app1 LA5.out g6 O6); clear O6 g6 k6))
      have L3 := L6
      clear L2 L4 LA5 OA5 HA5 hn4
      go_loopw [10, 13] (fun x10 x13 wr => ∃ s T out Fs sv2, x10 = .string (bs out) ∧ x13 = sv2 ∧ Wh n (i + 1) (A ++ [mk m]) s T out Fs ∧ out.length + s.re.length + Tm.wait s.q ≤ 306 * (i + 1) ∧ LI w1 n1 X n s (W ++ [P]) Fs v6 sv2 wr) (fun x10 _ _ => 20000 - strOf x10)
      case atStart => exact ⟨_, T, out, Fs, _, by rw [HO.out], rfl, AWH.out, by have := CBA.out; exact this, L6.out⟩
      case round =>
        clear HWH CB L3 L6 GD
        obtain ⟨s, T, out, Fs, sv2, rfl, rfl, hWh, hcb, hL⟩ := hrel
        have HWH := Lib.hid hWh
        have CB := Lib.hid hcb
        have L3 := Lib.hid hL
        have GD := Lib.hid (hWh.gd HI1.out.2)
        have FB := Lib.hid (show Fs.length ≤ 20000 by have := hWh.ol; have := HI1.out; have := Nat.le_mul_of_pos_right Fs.length (show 0 < n by have := HN.out; omega); omega)
        obtain ⟨O, hO⟩ : ∃ O, bs out = O := ⟨_, rfl⟩
        have HO := Lib.hid hO
        have sO : O.size ≤ 18360 := by rw [← hO, bs_size]; have := HI1.out; omega
        have TT := Lib.hid (show ∀ W2, Below n1 w1 W2 → ∀ b, bs2[i]? = some b → ∃ B off, a2 = some ⟨B, off, none⟩ ∧ W2.cell? ⟨B, off + i, none⟩ = some (.bool b) from fun W2 hb b hbb => by
          rcases HR2.out with e0 | ⟨B, off, e, hBl, hc⟩
          · rw [e0] at hbb; cases hbb
          · exact ⟨B, off, e, ((B1.out.trans (hb.mono WN1.out)).cell (p := ⟨B, off + i, none⟩) hBl).trans (hc i b hbb)⟩)
        rw [hO]
        clear hWh hcb hL hO
        by_cases q1 : i < M
        · have u1 : decide ((i : Int) < (M : Int)) = true := decide_eq_true (by omega)
          have u1n : decide (i < M) = true := decide_eq_true q1
          obtain ⟨b, hb⟩ : ∃ b, bs2[i]? = some b := ⟨bs2[i]'(by have := HM.out; omega), List.getElem?_eq_getElem (by have := HM.out; omega)⟩
          obtain ⟨B2, off2, rfl, cb⟩ := TT.out wr L3.out.bl b hb
          have i0' : (0 : Int) ≤ (i : Int) := by omega
          have i1' : (i : Int) < (M : Int) := by omega
          clear q1 hb
          cases b with
          | false =>
            have L7 := L3
            go_wp2_with fail
            go_roundw
            case rel => exact ⟨i + 1, A ++ [mk m], s, T, out, Fs, W ++ [P], _, _, HI1.out.1, by go_num, by rw [HO.out], rfl, rfl, by rw [List.map_append, HWA.out, ← HP.out]; rfl, HWH.out, CB.out, L7.out⟩
            case measure => simp [intOf]; have := HI1.out; omega
          | true =>
            go_wp2_with fail
            (refine (L3.out.wait GD.out).mono ?_)
            rintro e w3 ⟨rfl, L3'⟩
            obtain ⟨y, hy⟩ : ∃ y, Tm.wait s.q = y := ⟨_, rfl⟩
            have HY := Lib.hid hy
            rw [hy]
            by_cases q2 : n ≤ y
            · have u2 : decide ((n : Int) ≤ (y : Int)) = true := decide_eq_true (by omega)
              have u2n : decide (n ≤ y) = true := decide_eq_true q2
              have Q2 := Lib.hid q2
              have hz : Tm.wait s.q ≠ 0 := by have := HN.out; omega
              have L3 := Lib.hid L3'
              clear L3' hy q2
              go_wp2_with fail
              obtain ⟨U, hW2⟩ := HWH.out.next HN.out
              have nl := Tm.next_len (n := n) (s := s) idl_len (by have := HWH.out.run.short; have := HN.out; omega)
              rw [next_idl] at nl
              obtain ⟨N1, f, s2, hNX⟩ : ∃ N1 f s2, Tm.next tmIdle n s = (N1, f, s2) := ⟨_, _, _, rfl⟩
              have NL := L3.out.next GD.out HN.out
              have ls2 := Tm.next_less (idle := tmIdle) (n := n) (s := s)
              simp only [nxV, nxS, if_neg hz, hNX] at NL
              rw [hNX] at hW2 nl ls2
              simp only at hW2 nl ls2
              have W2 := Lib.hid hW2
              have LS2 := Lib.hid ls2
              obtain ⟨D, hD⟩ : ∃ D, bs N1 = D := ⟨_, rfl⟩
              rw [hD] at NL
              have sD : D.size = n := by rw [← hD, bs_size]; exact nl
              have OD := Lib.hid (show O ++ D = bs (out ++ N1) by rw [← bs_app, HO.out, hD])
              have NLEN := Lib.hid nl
              clear hW2 ls2 nl hNX hD
              (refine NL.mono ?_)
              rintro e w4 ⟨rfl, L4'⟩
              have L4 := Lib.hid L4'
              have hn4 := Lib.hid L4'.hs
              clear L4' NL hz
              go_wp2_with (first
                | ((with_reducible refine atList ?_); refine wpList_newRow rfl (.buildSlice 41 1 #[(0, .tmp 97)]) rfl [.int .i64 (f : Nat)] 3 1 n1 rfl (by unfold maxLen; omega) hn4.out (build_int1 rfl rfl) ?_; intro A5 w5 HA5 OA5 LA5)
                | (at_builtin; (with_reducible refine atList ?_); refine wpList_append_own2 rfl (.tmp 96) (.tmp 98) 41 rfl n1 3 j0 (.int .i64 0) 1 8 Try.underlying41 hj0 hy0 hy1 hy2 rfl (by decide) _ Fs.length _ rfl (own_below L4.out.r2 LA5.out) ⟨A5, 0, none⟩ 1 1 [.int .i64 (f : Nat)] rfl rfl (row_cells OA5.out ⟨A5, 0, none⟩ rfl) (by simp [Value.oneCell']) (by unfold maxLen; have := FB.out; omega) (by have := FB.out; omega) (Nat.le_trans hn4.out LA5.out.size) ?_; intro v6 w6 O6 g6 k6; have L6 := Lib.hid (L4.out.app2 LA5.out g6 O6 k6); clear O6 g6 k6))
              go_roundw
              case rel => exact ⟨s2, T ++ U, out ++ N1, Fs ++ [f], _, by rw [← OD.out], rfl, W2.out, by have l2 := LS2.out.1 (by have := Q2.out; have := HY.out; omega); have := CB.out; have := NLEN.out; have := Q2.out; have := HY.out; have := HN.out; have := HWH.out.run.short; rw [List.length_append, l2.1, l2.2]; show _ + 0 + _ ≤ _; omega, L6.out⟩
              case measure => simp [strOf]; have := HN.out; omega
            · have u2 : decide ((n : Int) ≤ (y : Int)) = false := decide_eq_false (by omega)
              have u2n : decide (n ≤ y) = false := decide_eq_false q2
              have L7 := Lib.hid L3'
              clear L3' hy q2
              go_wp2_with fail
              go_roundw
              case rel => exact ⟨i + 1, A ++ [mk m], s, T, out, Fs, W ++ [P], _, _, HI1.out.1, by go_num, by rw [HO.out], rfl, rfl, by rw [List.map_append, HWA.out, ← HP.out]; rfl, HWH.out, CB.out, L7.out⟩
              case measure => simp [intOf]; have := HI1.out; omega
        · have u1 : decide ((i : Int) < (M : Int)) = false := decide_eq_false (by omega)
          have u1n : decide (i < M) = false := decide_eq_false q1
          have L7 := L3
          clear q1
          go_wp2_with fail
          go_roundw
          case rel => exact ⟨i + 1, A ++ [mk m], s, T, out, Fs, W ++ [P], _, _, HI1.out.1, by go_num, by rw [HO.out], rfl, rfl, by rw [List.map_append, HWA.out, ← HP.out]; rfl, HWH.out, CB.out, L7.out⟩
          case measure => simp [intOf]; have := HI1.out; omega
    · have p1 : decide ((i : Int) < (N : Int)) = false := decide_eq_false (by omega)
      have p1n : decide (i < N) = false := decide_eq_false hlt
      have hiN : i = N := by omega
      subst hiN
      have I60 := Lib.hid hl
      clear hlt hi hL
      go_wp2_with fail
      go_loopw [10, 13, 19] (fun x10 x13 x19 wr => ∃ (k : Nat) (s : Tm.Fl) (T : List (Bool × List UInt8)) (out : List UInt8) (Fs : List Nat) (sv2 : Value), k ≤ 700 ∧ x19 = .int .i64 k ∧ x10 = .string (bs out) ∧ x13 = sv2 ∧ Wh n i A s T out Fs ∧ (Tm.wait s.q = 0 ∨ (Tm.wait s.q + 32 * k ≤ 18392 ∧ (k = 0 ∨ s.re = []))) ∧ Fs.length ≤ 600 + k ∧ LI w1 n1 X n s W Fs sv1 sv2 wr) (fun _ _ x19 _ => 700 - (intOf x19).toNat)
      case atStart => exact ⟨0, s, T, out, Fs, _, Nat.zero_le _, rfl, by rw [HO.out], rfl, HWH.out, .inr ⟨by have := HWH.out.wt; have := I60.out; omega, .inl rfl⟩, by have z1 := HWH.out.ol; have z2 := CB.out; have z3 := HN.out; have z4 := I60.out; have z5 := Nat.mul_le_mul_left Fs.length z3.1; omega, L2.out⟩
      case round =>
        clear HWH CB L2 HO sO
        obtain ⟨k, s, T, out, Fs, sv2, hk, rfl, rfl, rfl, hWh, hcb, hfb, hL⟩ := hrel
        have HWH := Lib.hid hWh
        have CBL := Lib.hid hcb
        have L2 := Lib.hid hL
        have FB0 := Lib.hid hfb
        have FB := Lib.hid (show Fs.length ≤ 20000 by omega)
        have GD := Lib.hid (hWh.gd I60.out)
        obtain ⟨O, hO⟩ : ∃ O, bs out = O := ⟨_, rfl⟩
        have HO := Lib.hid hO
        have sO : O.size ≤ 400000 := by
          rw [← hO, bs_size, hWh.ol]
          have z3 := HN.out
          have z5 := Nat.mul_le_mul_left Fs.length z3.2
          omega
        rw [hO]
        clear hWh hcb hfb hL hO
        by_cases q1 : k < 700
        · have u1 : decide ((k : Int) < 700) = true := decide_eq_true (by omega)
          have u1n : decide (k < 700) = true := decide_eq_true q1
          have KK := Lib.hid (show k + 1 ≤ 700 from q1)
          clear q1
          go_wp2_with fail
          (refine (L2.out.wait GD.out).mono ?_)
          rintro e w3 ⟨rfl, L3'⟩
          obtain ⟨y, hy⟩ : ∃ y, Tm.wait s.q = y := ⟨_, rfl⟩
          have HY := Lib.hid hy
          rw [hy]
          have L3 := Lib.hid L3'
          by_cases q2 : 0 < y
          · have u2 : decide (0 < (y : Int)) = true := decide_eq_true (by omega)
            have u2n : decide (0 < y) = true := decide_eq_true q2
            have Q2 := Lib.hid q2
            have hz : Tm.wait s.q ≠ 0 := by omega
            clear L3' hy q2
            go_wp2_with fail
            obtain ⟨U, hW2⟩ := HWH.out.next HN.out
            have nl := Tm.next_len (n := n) (s := s) idl_len (by have := HWH.out.run.short; have := HN.out; omega)
            rw [next_idl] at nl
            obtain ⟨N1, f, s2, hNX⟩ : ∃ N1 f s2, Tm.next tmIdle n s = (N1, f, s2) := ⟨_, _, _, rfl⟩
            have NL := L3.out.next GD.out HN.out
            have ls2 := Tm.next_less (idle := tmIdle) (n := n) (s := s)
            simp only [nxV, nxS, if_neg hz, hNX] at NL
            rw [hNX] at hW2 nl ls2
            simp only at hW2 nl ls2
            have W2 := Lib.hid hW2
            have LS2 := Lib.hid ls2
            obtain ⟨D, hD⟩ : ∃ D, bs N1 = D := ⟨_, rfl⟩
            rw [hD] at NL
            have sD : D.size = n := by rw [← hD, bs_size]; exact nl
            have OD := Lib.hid (show O ++ D = bs (out ++ N1) by rw [← bs_app, HO.out, hD])
            have NLEN := Lib.hid nl
            clear hW2 ls2 nl hNX hD
            (refine NL.mono ?_)
            rintro e w4 ⟨rfl, L4'⟩
            have L4 := Lib.hid L4'
            have hn4 := Lib.hid L4'.hs
            clear L4' NL hz
            go_wp2_with (first
              | ((with_reducible refine atList ?_); refine wpList_newRow rfl (.buildSlice 41 1 #[(0, .tmp 127)]) rfl [.int .i64 (f : Nat)] 3 1 n1 rfl (by unfold maxLen; omega) hn4.out (build_int1 rfl rfl) ?_; intro A5 w5 HA5 OA5 LA5)
              | (at_builtin; (with_reducible refine atList ?_); refine wpList_append_own2 rfl (.tmp 126) (.tmp 128) 41 rfl n1 3 j0 (.int .i64 0) 1 8 Try.underlying41 hj0 hy0 hy1 hy2 rfl (by decide) _ Fs.length _ rfl (own_below L4.out.r2 LA5.out) ⟨A5, 0, none⟩ 1 1 [.int .i64 (f : Nat)] rfl rfl (row_cells OA5.out ⟨A5, 0, none⟩ rfl) (by simp [Value.oneCell']) (by unfold maxLen; have := FB.out; omega) (by have := FB.out; omega) (Nat.le_trans hn4.out LA5.out.size) ?_; intro v6 w6 O6 g6 k6; have L6 := Lib.hid (L4.out.app2 LA5.out g6 O6 k6); clear O6 g6 k6))
            go_roundw
            case rel => exact ⟨k + 1, s2, T ++ U, out ++ N1, Fs ++ [f], _, KK.out, by go_num, by rw [← OD.out], rfl, W2.out, by
              have z1 := HWH.out.wt
              have z2 := CBL.out
              have z3 := HN.out
              have z4 := I60.out
              have z5 := HY.out
              have z6 := Q2.out
              by_cases g : n ≤ s.re.length + Tm.wait s.q
              · have l2 := LS2.out.1 g
                refine .inr ⟨?_, .inr l2.1⟩
                rw [l2.2]
                rcases z2 with z2 | ⟨z2, z7 | z7⟩
                · omega
                · omega
                · rw [z7] at g ⊢
                  rw [List.length_nil] at g ⊢
                  omega
              · exact .inl (LS2.out.2 g), by rw [List.length_append]; have := FB0.out; show _ + 1 ≤ _; omega, L6.out⟩
            case measure => simp [intOf]; have := KK.out; omega
          · have u2 : decide (0 < (y : Int)) = false := decide_eq_false (by omega)
            have u2n : decide (0 < y) = false := decide_eq_false q2
            have WZ := Lib.hid (show Tm.wait s.q = 0 by omega)
            clear L3' hy q2
            go_wp2_with fail
            have Q0 := Lib.hid (Tm.flatten_nil_of HWH.out.run.full (List.eq_nil_of_length_eq_zero WZ.out))
            have FT := Lib.hid (show Tm.flat T = out ++ s.re by have := HWH.out.run.bytes; rw [Q0.out] at this; rw [this]; cases s.bg <;> simp [Tm.pend])
            have AR := Lib.hid (show A = Tm.real T by have := HWH.out.run.pks; rw [Q0.out] at this; rw [this]; cases s.bg <;> simp [Tm.later])
            obtain ⟨ol, hol⟩ : ∃ ol, out.length = ol := ⟨_, rfl⟩
            have OL := Lib.hid hol
            have sE : O.size = ol := by rw [← HO.out, bs_size, hol]
            have olb : ol ≤ 400000 := by rw [← sE]; exact sO
            obtain ⟨z4, hz4⟩ : ∃ z, w3.heap.size = z := ⟨_, rfl⟩
            have TL := Lib.hid (show T.length ≤ 60000 by
              have l := congrArg List.length FT.out
              rw [List.length_append] at l
              have := HWH.out.run.short
              have := flat_seven HWH.out.pk
              omega)
            have ZL := Lib.hid hz4.symm
            clear hol sO hz4
            go_loopw [11, 23, 24] (fun x11 x23 x24 wq => ∃ (j : Nat) (svg svb : Value), j ≤ T.length ∧ (Tm.flat (T.take j)).length ≤ ol ∧ x11 = .int .i64 ((Tm.flat (T.take j)).length : Nat) ∧ svg = x23 ∧ svb = x24 ∧ wq.ownsRow z4 9 1 svg ((Tm.real (T.take j)).map bs).length (strVs ((Tm.real (T.take j)).map bs)) ∧ wq.ownsRow z4 3 1 svb (Tm.bgs (T.take j)).length (nVs (Tm.bgs (T.take j))) ∧ Below z4 w3 wq ∧ z4 ≤ wq.heap.size) (fun x11 _ _ _ => ol - (intOf x11).toNat)
            case atStart => exact ⟨0, _, _, Nat.zero_le _, Nat.zero_le _, rfl, rfl, rfl, World.ownsRow_nil _ _ _ _, World.ownsRow_nil _ _ _ _, Below.refl _ _, Nat.le_of_eq ZL.out⟩
            case round =>
              obtain ⟨j, svg, svb, hj, ha, rfl, rfl, rfl, hg, hb, hB, hzz⟩ := hrel
              have RG := Lib.hid hg
              have RB := Lib.hid hb
              have BZ := Lib.hid hB
              have HZ4 := Lib.hid hzz
              have BLN := Lib.hid (show (Tm.bgs (T.take j)).length ≤ 60000 by rw [Tm.bgs_len, List.length_take]; have := TL.out; omega)
              have RLN := Lib.hid (show ((Tm.real (T.take j)).map bs).length ≤ 60000 by
                rw [List.length_map]
                unfold Tm.real
                rw [List.length_map]
                have := List.length_filter_le (fun x : Bool × List UInt8 => !x.1) (T.take j)
                rw [List.length_take] at this
                have := TL.out
                omega)
              obtain ⟨a, haa⟩ : ∃ a, (Tm.flat (T.take j)).length = a := ⟨_, rfl⟩
              have HA := Lib.hid haa
              rw [haa] at ha ⊢
              clear hg hb hB hzz
              by_cases q : a < ol
              · have u1 : decide ((a : Int) < (ol : Int)) = true := decide_eq_true (by omega)
                have u1n : decide (a < ol) = true := decide_eq_true q
                have a0' : (0 : Int) ≤ (a : Int) := by omega
                have a1' : (a : Int) ≤ (ol : Int) := by omega
                obtain ⟨x, p, hx, e, ok, hi, hc⟩ := Tm.take_step HWH.out.pk FT.out HWH.out.run.short HWH.out.ends j (by rw [haa, OL.out]; exact q)
                rw [haa, OL.out] at hc
                have JL := Lib.hid (show j + 1 ≤ T.length from (List.getElem?_eq_some_iff.1 hx).1)
                have exx : (O.extract a ol).data.toList = out.drop a := by rw [← sE, rest_list _ _ (by omega), ← HO.out, bs_list]
                have TK := Lib.hid (fun w => ptake_any (O.extract a ol) (by rw [ByteArray.size_extract]; omega) w)
                rw [exx] at TK
                clear exx haa
                rcases hc with ⟨c1, c2, c3⟩ | ⟨c1, c2, c3, c4⟩
                · simp only [c2, tkV] at TK
                  obtain ⟨kk, hkk⟩ : ∃ kk, (Pk.enc p).length = kk := ⟨_, rfl⟩
                  rw [hkk] at TK c1 c3
                  have KK1 := Lib.hid (show 1 ≤ kk by rw [← hkk, Pk.enc_len]; omega)
                  obtain ⟨ak, hak⟩ : ∃ ak, a + kk = ak := ⟨_, rfl⟩
                  rw [hak] at c1
                  have C1 := Lib.hid (show ak ≤ ol ∧ a + kk = ak from ⟨c1, hak⟩)
                  have y0 : (a : Int) + (kk : Int) = (ak : Int) := by omega
                  have y1 : IntKind.i64.wrap (ak : Int) = (ak : Int) := by rw [IntKind.wrap_i64]; omega
                  have y2 : IntKind.i64.wrap ((a : Int) + (kk : Int)) = (ak : Int) := by rw [IntKind.wrap_i64]; omega
                  have y3 : decide ((kk : Int) < 1) = false := decide_eq_false (by have := KK1.out; omega)
                  have y4 : decide ((ol : Int) < (ak : Int)) = false := decide_eq_false (by omega)
                  have y4n : decide (ol < ak) = false := decide_eq_false (by omega)
                  have aak : a ≤ ak := by omega
                  have akl : ak ≤ ol := by omega
                  have E1 := Lib.hid (show (Tm.flat (T.take (j + 1))).length = ak by rw [Tm.flat_succ hx, List.length_append, HA.out, e, hkk]; exact hak)
                  have CUT := Lib.hid (show O.extract a ak = bs (Pk.enc p) by
                    apply ByteArray.ext
                    apply Array.toList_inj.1
                    rw [ext_list _ _ _ aak, bs_list, ← c3, ← HO.out, bs_list, List.drop_take, ← hak, Nat.add_sub_cancel_left])
                  have ENC := Lib.hid e
                  clear c1 c2 c3 hak hkk
                  go_wp2_with fail
                  (refine (TK.out _).mono ?_)
                  rintro e w5 ⟨rfl, h5⟩
                  have H5 := Lib.hid h5
                  clear h5 TK
                  by_cases hr : x.1 = true
                  · have apn : (p.ap != 2047) = false := by rw [hi.1 hr]; rfl
                    go_wp2_with (first
                    | ((with_reducible refine atList ?_); refine wpList_newT rfl (.alloc 63) rfl (some 25) rfl #[.bool false, .int .i64 0, .int .i64 0, .int .i64 0, .string ⟨#[]⟩] 63 (fun X => .pointer (some ⟨X, 0, none⟩)) 5 (pkCel ⟨false, 0, 0, 0, ⟨#[]⟩⟩) (pkc_cells ⟨false, 0, 0, 0, ⟨#[]⟩⟩) (alloc_pk rfl) ?_; intro V w6 HV SV CV LV TV)
                    | ((with_reducible refine atList ?_); refine wpList_setAllT rfl 63 (.tmp 25) (.tmp 139) rfl V 5 [.bool p.cmd, .int .i64 p.ap, .int .i64 p.fl, .int .i64 p.ct, .string p.da] _ (pkCel p) CV.out rfl (pkc_list p) rfl rfl pkc_info (by simp [Value.oneCell']) ?_; intro w7 C7 U7 S7 V7; have BW7 := Lib.hid (But.under (bt H5.out LV.out) U7.out (by have := HV.out; have := H5.out.size; omega)); have RB7 := Lib.hid (own_below RB.out BW7.out); have RG7 := Lib.hid (own_below RG.out BW7.out); have hz7 := Lib.hid (Nat.le_trans HZ4.out BW7.out.size))
                    | ((with_reducible refine atList ?_); refine wpList_newRow rfl (.buildSlice 41 1 #[(0, .tmp 163)]) rfl [.int .i64 (a : Nat)] 3 1 z4 rfl (by unfold maxLen; omega) hz7.out (build_int1 rfl rfl) ?_; intro A8 w8 HA8 OA8 LA8)
                    | (at_builtin; (with_reducible refine atList ?_); refine wpList_append_own2 rfl (.tmp 162) (.tmp 164) 41 rfl z4 3 j0 (.int .i64 0) 1 8 Try.underlying41 hj0 hy0 hy1 hy2 rfl (by decide) _ (Tm.bgs (T.take j)).length _ rfl (own_below RB7.out LA8.out) ⟨A8, 0, none⟩ 1 1 [.int .i64 (a : Nat)] rfl rfl (row_cells OA8.out ⟨A8, 0, none⟩ rfl) (by simp [Value.oneCell']) (by unfold maxLen; have := BLN.out; omega) (by have := BLN.out; omega) (Nat.le_trans hz7.out LA8.out.size) ?_; intro v9 w9 O9 g9 k9; have RB9 := Lib.hid O9; have RG9 := Lib.hid (own_keep (own_below RG7.out LA8.out) (fun g hg hl => g9.block g hl (fun e => ty_ne (own_ty (own_below RG7.out LA8.out) hg).2 (own_ty (own_below RB7.out LA8.out) e.symm).2 (by decide) rfl))); have B9 := Lib.hid ((BZ.out.trans ((bt BW7.out LA8.out).mono HZ4.out)).grown g9 (Nat.le_trans hz7.out LA8.out.size) (fun k e => (own_ty (own_below RB7.out LA8.out) e).1)); have hz9 := Lib.hid (Nat.le_trans (Nat.le_trans hz7.out LA8.out.size) g9.size); have TV7 := V7.out _ TV.out; have cap9 : w9.cell? ⟨V, 1, none⟩ = some (.int .i64 p.ap) := (World.cell?_of_block (a := ⟨V, 1, none⟩) (g9.block V (Nat.lt_of_lt_of_le TV7.lt LA8.out.size) (fun e => ty_ne (TV7.below LA8.out) (own_ty (own_below RB7.out LA8.out) e.symm).2 (by decide) rfl))).trans ((LA8.out.cell (p := ⟨V, 1, none⟩) TV7.lt).trans (C7.out.cell (j := 1) (by omega))); clear O9 g9 k9))
                    go_roundw
                    case rel => exact ⟨j + 1, _, _, JL.out, by rw [E1.out]; have := C1.out; omega, by rw [E1.out], rfl, rfl, by rw [Tm.real_succ hx, if_pos hr, List.append_nil]; exact RG9.out, by rw [Tm.bgs_succ hx, List.length_append, ← nVs_add, HA.out]; exact RB9.out, B9.out, hz9.out⟩
                    case measure => simp [intOf]; have := C1.out; have := KK1.out; omega
                  · have apn : (p.ap != 2047) = true := by simpa using fun q => hr (hi.2 q)
                    go_wp2_with (first
                    | ((with_reducible refine atList ?_); refine wpList_newT rfl (.alloc 63) rfl (some 25) rfl #[.bool false, .int .i64 0, .int .i64 0, .int .i64 0, .string ⟨#[]⟩] 63 (fun X => .pointer (some ⟨X, 0, none⟩)) 5 (pkCel ⟨false, 0, 0, 0, ⟨#[]⟩⟩) (pkc_cells ⟨false, 0, 0, 0, ⟨#[]⟩⟩) (alloc_pk rfl) ?_; intro V w6 HV SV CV LV TV)
                    | ((with_reducible refine atList ?_); refine wpList_setAllT rfl 63 (.tmp 25) (.tmp 139) rfl V 5 [.bool p.cmd, .int .i64 p.ap, .int .i64 p.fl, .int .i64 p.ct, .string p.da] _ (pkCel p) CV.out rfl (pkc_list p) rfl rfl pkc_info (by simp [Value.oneCell']) ?_; intro w7 C7 U7 S7 V7; have BW7 := Lib.hid (But.under (bt H5.out LV.out) U7.out (by have := HV.out; have := H5.out.size; omega)); have RB7 := Lib.hid (own_below RB.out BW7.out); have RG7 := Lib.hid (own_below RG.out BW7.out); have hz7 := Lib.hid (Nat.le_trans HZ4.out BW7.out.size))
                    | ((with_reducible refine atList ?_); refine wpList_newRow rfl (.buildSlice 41 1 #[(0, .tmp 163)]) rfl [.int .i64 (a : Nat)] 3 1 z4 rfl (by unfold maxLen; omega) hz7.out (build_int1 rfl rfl) ?_; intro A8 w8 HA8 OA8 LA8)
                    | (at_builtin; (with_reducible refine atList ?_); refine wpList_append_own2 rfl (.tmp 162) (.tmp 164) 41 rfl z4 3 j0 (.int .i64 0) 1 8 Try.underlying41 hj0 hy0 hy1 hy2 rfl (by decide) _ (Tm.bgs (T.take j)).length _ rfl (own_below RB7.out LA8.out) ⟨A8, 0, none⟩ 1 1 [.int .i64 (a : Nat)] rfl rfl (row_cells OA8.out ⟨A8, 0, none⟩ rfl) (by simp [Value.oneCell']) (by unfold maxLen; have := BLN.out; omega) (by have := BLN.out; omega) (Nat.le_trans hz7.out LA8.out.size) ?_; intro v9 w9 O9 g9 k9; have RB9 := Lib.hid O9; have RG9 := Lib.hid (own_keep (own_below RG7.out LA8.out) (fun g hg hl => g9.block g hl (fun e => ty_ne (own_ty (own_below RG7.out LA8.out) hg).2 (own_ty (own_below RB7.out LA8.out) e.symm).2 (by decide) rfl))); have B9 := Lib.hid ((BZ.out.trans ((bt BW7.out LA8.out).mono HZ4.out)).grown g9 (Nat.le_trans hz7.out LA8.out.size) (fun k e => (own_ty (own_below RB7.out LA8.out) e).1)); have hz9 := Lib.hid (Nat.le_trans (Nat.le_trans hz7.out LA8.out.size) g9.size); have TV7 := V7.out _ TV.out; have cap9 : w9.cell? ⟨V, 1, none⟩ = some (.int .i64 p.ap) := (World.cell?_of_block (a := ⟨V, 1, none⟩) (g9.block V (Nat.lt_of_lt_of_le TV7.lt LA8.out.size) (fun e => ty_ne (TV7.below LA8.out) (own_ty (own_below RB7.out LA8.out) e.symm).2 (by decide) rfl))).trans ((LA8.out.cell (p := ⟨V, 1, none⟩) TV7.lt).trans (C7.out.cell (j := 1) (by omega))); clear O9 g9 k9)
                    | ((with_reducible refine atList ?_); refine wpList_newRow rfl (.buildSlice 61 1 #[(0, .tmp 175)]) rfl [.string (O.extract a ak)] 9 1 z4 rfl (by unfold maxLen; omega) hz9.out (build_strs1 rfl rfl) ?_; intro A10 w10 HA10 OA10 LA10)
                    | (at_builtin; (with_reducible refine atList ?_); refine wpList_append_own2 rfl (.tmp 169) (.tmp 176) 61 rfl z4 9 i0 (.string ⟨#[]⟩) 1 16 Try.underlying61 hi0 hz0 hz1 hz2 rfl (by decide) _ ((Tm.real (T.take j)).map bs).length _ rfl (own_below RG9.out LA10.out) ⟨A10, 0, none⟩ 1 1 [.string (O.extract a ak)] rfl rfl (row_cells OA10.out ⟨A10, 0, none⟩ rfl) (by simp [Value.oneCell']) (by unfold maxLen; have := RLN.out; omega) (by have := RLN.out; omega) (Nat.le_trans hz9.out LA10.out.size) ?_; intro v11 w11 O11 g11 k11; have RG11 := Lib.hid O11; have RB11 := Lib.hid (own_keep (own_below RB9.out LA10.out) (fun g hg hl => g11.block g hl (fun e => ty_ne (own_ty (own_below RB9.out LA10.out) hg).2 (own_ty (own_below RG9.out LA10.out) e.symm).2 (by decide) rfl))); have B11 := Lib.hid ((B9.out.trans (LA10.out.mono hz9.out)).grown g11 (Nat.le_trans hz9.out LA10.out.size) (fun k e => (own_ty (own_below RG9.out LA10.out) e).1)); have hz11 := Lib.hid (Nat.le_trans (Nat.le_trans hz9.out LA10.out.size) g11.size); clear O11 g11 k11))
                    go_roundw
                    case rel => exact ⟨j + 1, _, _, JL.out, by rw [E1.out]; have := C1.out; omega, by rw [E1.out], rfl, rfl, by rw [Tm.real_succ hx, if_neg hr, List.map_append, List.length_append, show [x.2].map bs = [bs x.2] from rfl, ← strVs_add, ENC.out, ← CUT.out]; exact RG11.out, by rw [Tm.bgs_succ hx, List.length_append, ← nVs_add, HA.out]; exact RB11.out, B11.out, hz11.out⟩
                    case measure => simp [intOf]; have := C1.out; have := KK1.out; omega
                · simp only [c2, tkV] at TK
                  clear c1 c2
                  go_wp2_with fail
                  (refine (TK.out _).mono ?_)
                  rintro e w5 ⟨rfl, h5⟩
                  have H5 := Lib.hid h5
                  clear h5 TK
                  go_wp2_with (first
                    | ((with_reducible refine atList ?_); refine wpList_newT rfl (.alloc 63) rfl (some 25) rfl #[.bool false, .int .i64 0, .int .i64 0, .int .i64 0, .string ⟨#[]⟩] 63 (fun X => .pointer (some ⟨X, 0, none⟩)) 5 (pkCel ⟨false, 0, 0, 0, ⟨#[]⟩⟩) (pkc_cells ⟨false, 0, 0, 0, ⟨#[]⟩⟩) (alloc_pk rfl) ?_; intro V w6 HV SV CV LV TV)
                    | ((with_reducible refine atList ?_); refine wpList_setAllT rfl 63 (.tmp 25) (.tmp 139) rfl V 5 [.bool pk0.cmd, .int .i64 pk0.ap, .int .i64 pk0.fl, .int .i64 pk0.ct, .string pk0.da] _ (pkCel pk0) CV.out rfl (pkc_list pk0) rfl rfl pkc_info (by simp [Value.oneCell']) ?_; intro w7 C7 U7 S7 V7; have BW7 := Lib.hid (But.under (bt H5.out LV.out) U7.out (by have := HV.out; have := H5.out.size; omega)); have RB7 := Lib.hid (own_below RB.out BW7.out); have RG7 := Lib.hid (own_below RG.out BW7.out); have hz7 := Lib.hid (Nat.le_trans HZ4.out BW7.out.size))
                    | ((with_reducible refine atList ?_); refine wpList_newRow rfl (.buildSlice 41 1 #[(0, .tmp 145)]) rfl [.int .i64 (a : Nat)] 3 1 z4 rfl (by unfold maxLen; omega) hz7.out (build_int1 rfl rfl) ?_; intro A8 w8 HA8 OA8 LA8)
                    | (at_builtin; (with_reducible refine atList ?_); refine wpList_append_own2 rfl (.tmp 144) (.tmp 146) 41 rfl z4 3 j0 (.int .i64 0) 1 8 Try.underlying41 hj0 hy0 hy1 hy2 rfl (by decide) _ (Tm.bgs (T.take j)).length _ rfl (own_below RB7.out LA8.out) ⟨A8, 0, none⟩ 1 1 [.int .i64 (a : Nat)] rfl rfl (row_cells OA8.out ⟨A8, 0, none⟩ rfl) (by simp [Value.oneCell']) (by unfold maxLen; have := BLN.out; omega) (by have := BLN.out; omega) (Nat.le_trans hz7.out LA8.out.size) ?_; intro v9 w9 O9 g9 k9; have RB9 := Lib.hid O9; have RG9 := Lib.hid (own_keep (own_below RG7.out LA8.out) (fun g hg hl => g9.block g hl (fun e => ty_ne (own_ty (own_below RG7.out LA8.out) hg).2 (own_ty (own_below RB7.out LA8.out) e.symm).2 (by decide) rfl))); have B9 := Lib.hid ((BZ.out.trans ((bt BW7.out LA8.out).mono HZ4.out)).grown g9 (Nat.le_trans hz7.out LA8.out.size) (fun k e => (own_ty (own_below RB7.out LA8.out) e).1)); have hz9 := Lib.hid (Nat.le_trans (Nat.le_trans hz7.out LA8.out.size) g9.size); clear O9 g9 k9))
                  have tT : T.take (j + 1) = T := List.take_of_length_le (by omega)
                  have bT := Tm.bgs_succ hx
                  have rT := Tm.real_succ hx
                  rw [tT] at bT rT
                  rw [if_pos c4, List.append_nil] at rT
                  have RBF := Lib.hid (show w9.ownsRow z4 3 1 v9 (Tm.bgs T).length (nVs (Tm.bgs T)) by rw [bT, List.length_append, ← nVs_add, HA.out]; exact RB9.out)
                  have RGF := Lib.hid (show w9.ownsRow z4 9 1 svg ((Tm.real T).map bs).length (strVs ((Tm.real T).map bs)) by rw [rT]; exact RG9.out)
                  have L9 := Lib.hid (L3.out.below (by rw [← ZL.out]; exact B9.out))
                  clear tT bT rT hx c3 c4 hi e ok
                  have rbf := RBF.out
                  have rgf := RGF.out
                  have lr2 := L9.out.r2
                  have lr1 := L9.out.r1
                  obtain ⟨ba', bc', rfl⟩ := own_is rbf
                  obtain ⟨ga', gc', rfl⟩ := own_is rgf
                  obtain ⟨fa', fc', rfl⟩ := own_is lr2
                  obtain ⟨wa', wc', rfl⟩ := own_is lr1
                  obtain ⟨BL, hBL⟩ : ∃ BL, (Tm.bgs T).length = BL := ⟨_, rfl⟩
                  obtain ⟨FL, hFL⟩ : ∃ FL, Fs.length = FL := ⟨_, rfl⟩
                  rw [hBL] at rbf
                  rw [hFL] at lr2
                  have HBL := Lib.hid hBL
                  have HFL := Lib.hid hFL
                  have RB0 := Lib.hid rbf
                  have RF0 := Lib.hid lr2
                  have FLB := Lib.hid (show FL ≤ 20000 by rw [← hFL]; exact FB.out)
                  have BLB := Lib.hid (show BL ≤ 60000 by rw [← hBL, Tm.bgs_len]; exact TL.out)
                  rw [hBL, hFL]
                  clear rbf rgf lr2 lr1 hBL hFL
                  go_loopw [28] (fun x28 wz => ∃ b : Nat, b ≤ FL ∧ x28 = .int .i64 b ∧ w9 = wz) (fun x28 _ => FL - (intOf x28).toNat)
                  case atStart => exact ⟨0, Nat.zero_le _, rfl, rfl⟩
                  case round =>
                    obtain ⟨b, hb, rfl, rfl⟩ := hrel
                    by_cases g5 : b < FL
                    · have v1 : decide ((b : Int) < (FL : Int)) = true := decide_eq_true (by omega)
                      have v1n : decide (b < FL) = true := decide_eq_true g5
                      have b0' : (0 : Int) ≤ (b : Int) := by omega
                      have b1' : (b : Int) < (FL : Int) := by omega
                      have HB1 := Lib.hid (show b + 1 ≤ FL from g5)
                      have flb := FLB.out
                      have blb := BLB.out
                      have nn := HN.out.2
                      obtain ⟨bn, hbn⟩ : ∃ bn, b * n = bn := ⟨_, rfl⟩
                      obtain ⟨bn2, hbn2⟩ : ∃ bn2, (b + 1) * n = bn2 := ⟨_, rfl⟩
                      have bnb : bn ≤ 4000000 := by rw [← hbn]; exact Nat.le_trans (Nat.mul_le_mul (show b ≤ 20000 by omega) nn) (by omega)
                      have bnb2 : bn2 ≤ 5000000 := by rw [← hbn2]; exact Nat.le_trans (Nat.mul_le_mul (show b + 1 ≤ 20001 by omega) nn) (by omega)
                      have m1 : (b : Int) * (n : Int) = (bn : Int) := by rw [← hbn]; simp
                      have m2 : ((b : Int) + 1) * (n : Int) = (bn2 : Int) := by rw [← hbn2]; simp
                      have m3 : IntKind.i64.wrap (bn : Int) = (bn : Int) := by rw [IntKind.wrap_i64]; omega
                      have m4 : IntKind.i64.wrap (bn2 : Int) = (bn2 : Int) := by rw [IntKind.wrap_i64]; omega
                      have m5 : IntKind.i64.wrap ((b : Int) * (n : Int)) = (bn : Int) := by rw [m1, m3]
                      have m6 : IntKind.i64.wrap (((b : Int) + 1) * (n : Int)) = (bn2 : Int) := by rw [m2, m4]
                      have m7 : IntKind.i64.wrap ((b : Int) + 1) = (b : Int) + 1 := by rw [IntKind.wrap_i64]; omega
                      have m8 : IntKind.i64.wrap ((BL : Int) - 1) = (BL : Int) - 1 := by rw [IntKind.wrap_i64]; omega
                      have HBN := Lib.hid hbn
                      have HBN2 := Lib.hid hbn2
                      clear hb g5 hbn hbn2 nn
                      go_wp2_with fail
                      go_loopw [29, 30] (fun x29 x30 wz => ∃ c : Nat, c ≤ BL ∧ x30 = .int .i64 ((c : Int) - 1) ∧ x29 = .int .i64 (Tm.fAt n b ((Tm.bgs T).drop c) : Nat) ∧ w9 = wz) (fun _ x30 _ => (intOf x30 + 1).toNat)
                      case atStart => exact ⟨BL, Nat.le_refl _, rfl, by rw [← HBL.out, List.drop_length]; rfl, rfl⟩
                      case round =>
                        obtain ⟨c, hc6, rfl, rfl, rfl⟩ := hrel
                        rcases Nat.eq_zero_or_pos c with rfl | hc0
                        · have z6 : decide ((0 : Int) ≤ ((0 : Nat) : Int) - 1) = false := rfl
                          have z7 : decide ((0 : Int) ≤ -1) = false := rfl
                          obtain ⟨ff, hff⟩ : ∃ ff, Tm.fAt n b (Tm.bgs T) = ff := ⟨_, rfl⟩
                          rw [List.drop_zero, hff]
                          obtain ⟨FG, rfl, _, TF⟩ := row_some RF0.out (by have := HB1.out; omega)
                          have cf : (w9).cell? ⟨FG, b, none⟩ = some (.int .i64 (ff : Nat)) := by
                            have ft := HWH.out.fs.at' b (by rw [HFL.out]; exact HB1.out)
                            have fg : Fs[b]? = some ff := by
                              rw [List.getElem?_eq_getElem (by rw [HFL.out]; exact HB1.out)]
                              rw [hff, List.getD_eq_getElem?_getD, List.getElem?_eq_getElem (by rw [HFL.out]; exact HB1.out)] at ft
                              exact congrArg some ft
                            have := RF0.out.cells (g := FG) rfl b (.int .i64 (ff : Nat)) (by unfold nVs; rw [List.getElem?_map, fg]; rfl)
                            rwa [add_off, Nat.zero_add] at this
                          have zf : ((ff : Int) != (ff : Int)) = false := by simp
                          have zfn : (ff != ff) = false := by simp
                          clear hff
                          go_wp2_with fail
                          go_roundw
                          case rel => exact ⟨b + 1, HB1.out, by go_num, trivial⟩
                          case measure => simp [intOf]; have := HB1.out; omega
                        · obtain ⟨d, rfl⟩ : ∃ d, c = d + 1 := ⟨c - 1, by omega⟩
                          have w1' : (((d + 1 : Nat) : Int) - 1) = (d : Int) := by omega
                          rw [w1']
                          have w2' : decide ((0 : Int) ≤ (d : Int)) = true := decide_eq_true (by omega)
                          have w3 : IntKind.i64.wrap ((d : Int) - 1) = (d : Int) - 1 := by rw [IntKind.wrap_i64]; omega
                          have w4' : (0 : Int) ≤ (d : Int) := by omega
                          have w5' : (d : Int) < (BL : Int) := by omega
                          obtain ⟨GB, rfl, _, TGB⟩ := row_some RB0.out (by omega)
                          obtain ⟨g, hg⟩ : ∃ g, (Tm.bgs T)[d]? = some g := ⟨(Tm.bgs T)[d]'(by have := HBL.out; omega), List.getElem?_eq_getElem (by have := HBL.out; omega)⟩
                          have cg : (w9).cell? ⟨GB, d, none⟩ = some (.int .i64 (g : Nat)) := by
                            have := RB0.out.cells (g := GB) rfl d (.int .i64 (g : Nat)) (by unfold nVs; rw [List.getElem?_map, hg]; rfl)
                            rwa [add_off, Nat.zero_add] at this
                          have dd : (Tm.bgs T).drop d = g :: (Tm.bgs T).drop (d + 1) := by
                            have hd : d < (Tm.bgs T).length := by have := HBL.out; omega
                            rw [List.drop_eq_getElem_cons hd]
                            congr 1
                            rw [List.getElem?_eq_getElem hd] at hg
                            exact Option.some.inj hg
                          have DD := Lib.hid dd
                          have gb9 : g ≤ 5000000 := by
                            have := HWH.out.fs.inn g (List.mem_of_getElem? hg)
                            rw [HFL.out] at this
                            exact Nat.le_trans (Nat.le_of_lt this) (Nat.le_trans (Nat.mul_le_mul FLB.out HN.out.2) (by omega))
                          clear dd hg hc6
                          by_cases r1 : bn ≤ g
                          · have p1 : decide ((bn : Int) ≤ (g : Int)) = true := decide_eq_true (by omega)
                            have p1n : decide (bn ≤ g) = true := decide_eq_true r1
                            by_cases r2 : g < bn2
                            · have p2 : decide ((g : Int) < (bn2 : Int)) = true := decide_eq_true (by omega)
                              have p2n : decide (g < bn2) = true := decide_eq_true r2
                              obtain ⟨gi, hgi⟩ : ∃ gi, g - bn = gi := ⟨_, rfl⟩
                              have s1 : (g : Int) - (bn : Int) = (gi : Int) := by omega
                              have s2 : IntKind.i64.wrap (gi : Int) = (gi : Int) := by rw [IntKind.wrap_i64]; omega
                              have s3 : IntKind.i64.wrap ((g : Int) - (bn : Int)) = (gi : Int) := by rw [s1, s2]
                              have FE := Lib.hid (show Tm.fAt n b ((Tm.bgs T).drop d) = gi by rw [DD.out, Tm.fAt_yes (by rw [HBN.out]; exact r1) (by rw [HBN2.out]; exact r2), HBN.out]; exact hgi)
                              clear r1 r2 hgi
                              go_wp2_with fail
                              go_roundw
                              case rel => exact ⟨d, by omega, by first | rfl | rw [w3], by rw [FE.out], trivial⟩
                              case measure => first | (simp [intOf]; done) | (simp [intOf]; omega)
                            · have p2 : decide ((g : Int) < (bn2 : Int)) = false := decide_eq_false (by omega)
                              have p2n : decide (g < bn2) = false := decide_eq_false r2
                              have FE := Lib.hid (show Tm.fAt n b ((Tm.bgs T).drop d) = Tm.fAt n b ((Tm.bgs T).drop (d + 1)) by rw [DD.out, Tm.fAt_skip (by rw [HBN.out, HBN2.out]; omega)])
                              clear r1 r2
                              go_wp2_with fail
                              go_roundw
                              case rel => exact ⟨d, by omega, by first | rfl | rw [w3], by rw [FE.out], trivial⟩
                              case measure => first | (simp [intOf]; done) | (simp [intOf]; omega)
                          · have p1 : decide ((bn : Int) ≤ (g : Int)) = false := decide_eq_false (by omega)
                            have p1n : decide (bn ≤ g) = false := decide_eq_false r1
                            have FE := Lib.hid (show Tm.fAt n b ((Tm.bgs T).drop d) = Tm.fAt n b ((Tm.bgs T).drop (d + 1)) by rw [DD.out, Tm.fAt_skip (by rw [HBN.out, HBN2.out]; omega)])
                            clear r1
                            go_wp2_with fail
                            go_roundw
                            case rel => exact ⟨d, by omega, by first | rfl | rw [w3], by rw [FE.out], trivial⟩
                            case measure => first | (simp [intOf]; done) | (simp [intOf]; omega)
                    · have v1 : decide ((b : Int) < (FL : Int)) = false := decide_eq_false (by omega)
                      have v1n : decide (b < FL) = false := decide_eq_false g5
                      obtain ⟨RL, hRL⟩ : ∃ RL, ((Tm.real T).map bs).length = RL := ⟨_, rfl⟩
                      have we : W = (Tm.real T).map bs := by rw [HWA.out, ← AR.out]
                      have r1f := L9.out.r1
                      have rgf := RGF.out
                      have wl := WL.out
                      rw [we] at r1f wl
                      rw [hRL] at r1f rgf wl
                      have SS9 := Lib.hid (sameStrings_any ga' wa' RL gc' wc' z4 n1 ((Tm.real T).map bs) hRL (by have := I60.out; omega) w9 rgf r1f)
                      have wr9 : W.length = RL := by rw [we, hRL]
                      rw [hRL, wr9]
                      clear hb g5 hRL we r1f rgf wl wr9
                      go_wp2_with fail
                      (refine SS9.out.mono ?_)
                      rintro e w30 ⟨rfl, h30⟩
                      have L30 := Lib.hid (L9.out.below h30)
                      have WT30 := L30.out.wait GD.out
                      rw [WZ.out] at WT30
                      clear h30
                      go_wp2_with fail
                      (refine WT30.mono ?_)
                      rintro e w31 ⟨rfl, L31⟩
                      have B31 := Lib.hid (B1.out.trans (L31.bl.mono WN1.out))
                      clear L31 WT30
                      go_wp2_with fail
                      go_ret
                      exact ⟨rfl, B31.out⟩
              · have u1 : decide ((a : Int) < (ol : Int)) = false := decide_eq_false (by omega)
                have u1n : decide (a < ol) = false := decide_eq_false q
                have jT := Tm.take_end HWH.out.pk FT.out HWH.out.run.short j hj (by rw [haa, OL.out]; omega)
                clear q ha
                go_wp2_with fail
                rename World => w9
                have tT : T.take j = T := List.take_of_length_le (by omega)
                have RBF := Lib.hid (show w9.ownsRow z4 3 1 svb (Tm.bgs T).length (nVs (Tm.bgs T)) by have := RB.out; rw [tT] at this; exact this)
                have RGF := Lib.hid (show w9.ownsRow z4 9 1 svg ((Tm.real T).map bs).length (strVs ((Tm.real T).map bs)) by have := RG.out; rw [tT] at this; exact this)
                have L9 := Lib.hid (L3.out.below (by rw [← ZL.out]; exact BZ.out))
                clear tT jT
                have rbf := RBF.out
                have rgf := RGF.out
                have lr2 := L9.out.r2
                have lr1 := L9.out.r1
                obtain ⟨ba', bc', rfl⟩ := own_is rbf
                obtain ⟨ga', gc', rfl⟩ := own_is rgf
                obtain ⟨fa', fc', rfl⟩ := own_is lr2
                obtain ⟨wa', wc', rfl⟩ := own_is lr1
                obtain ⟨BL, hBL⟩ : ∃ BL, (Tm.bgs T).length = BL := ⟨_, rfl⟩
                obtain ⟨FL, hFL⟩ : ∃ FL, Fs.length = FL := ⟨_, rfl⟩
                rw [hBL] at rbf
                rw [hFL] at lr2
                have HBL := Lib.hid hBL
                have HFL := Lib.hid hFL
                have RB0 := Lib.hid rbf
                have RF0 := Lib.hid lr2
                have FLB := Lib.hid (show FL ≤ 20000 by rw [← hFL]; exact FB.out)
                have BLB := Lib.hid (show BL ≤ 60000 by rw [← hBL, Tm.bgs_len]; exact TL.out)
                rw [hBL, hFL]
                clear rbf rgf lr2 lr1 hBL hFL
                go_loopw [28] (fun x28 wz => ∃ b : Nat, b ≤ FL ∧ x28 = .int .i64 b ∧ w9 = wz) (fun x28 _ => FL - (intOf x28).toNat)
                case atStart => exact ⟨0, Nat.zero_le _, rfl, rfl⟩
                case round =>
                  obtain ⟨b, hb, rfl, rfl⟩ := hrel
                  by_cases g5 : b < FL
                  · have v1 : decide ((b : Int) < (FL : Int)) = true := decide_eq_true (by omega)
                    have v1n : decide (b < FL) = true := decide_eq_true g5
                    have b0' : (0 : Int) ≤ (b : Int) := by omega
                    have b1' : (b : Int) < (FL : Int) := by omega
                    have HB1 := Lib.hid (show b + 1 ≤ FL from g5)
                    have flb := FLB.out
                    have blb := BLB.out
                    have nn := HN.out.2
                    obtain ⟨bn, hbn⟩ : ∃ bn, b * n = bn := ⟨_, rfl⟩
                    obtain ⟨bn2, hbn2⟩ : ∃ bn2, (b + 1) * n = bn2 := ⟨_, rfl⟩
                    have bnb : bn ≤ 4000000 := by rw [← hbn]; exact Nat.le_trans (Nat.mul_le_mul (show b ≤ 20000 by omega) nn) (by omega)
                    have bnb2 : bn2 ≤ 5000000 := by rw [← hbn2]; exact Nat.le_trans (Nat.mul_le_mul (show b + 1 ≤ 20001 by omega) nn) (by omega)
                    have m1 : (b : Int) * (n : Int) = (bn : Int) := by rw [← hbn]; simp
                    have m2 : ((b : Int) + 1) * (n : Int) = (bn2 : Int) := by rw [← hbn2]; simp
                    have m3 : IntKind.i64.wrap (bn : Int) = (bn : Int) := by rw [IntKind.wrap_i64]; omega
                    have m4 : IntKind.i64.wrap (bn2 : Int) = (bn2 : Int) := by rw [IntKind.wrap_i64]; omega
                    have m5 : IntKind.i64.wrap ((b : Int) * (n : Int)) = (bn : Int) := by rw [m1, m3]
                    have m6 : IntKind.i64.wrap (((b : Int) + 1) * (n : Int)) = (bn2 : Int) := by rw [m2, m4]
                    have m7 : IntKind.i64.wrap ((b : Int) + 1) = (b : Int) + 1 := by rw [IntKind.wrap_i64]; omega
                    have m8 : IntKind.i64.wrap ((BL : Int) - 1) = (BL : Int) - 1 := by rw [IntKind.wrap_i64]; omega
                    have HBN := Lib.hid hbn
                    have HBN2 := Lib.hid hbn2
                    clear hb g5 hbn hbn2 nn
                    go_wp2_with fail
                    go_loopw [29, 30] (fun x29 x30 wz => ∃ c : Nat, c ≤ BL ∧ x30 = .int .i64 ((c : Int) - 1) ∧ x29 = .int .i64 (Tm.fAt n b ((Tm.bgs T).drop c) : Nat) ∧ w9 = wz) (fun _ x30 _ => (intOf x30 + 1).toNat)
                    case atStart => exact ⟨BL, Nat.le_refl _, rfl, by rw [← HBL.out, List.drop_length]; rfl, rfl⟩
                    case round =>
                      obtain ⟨c, hc6, rfl, rfl, rfl⟩ := hrel
                      rcases Nat.eq_zero_or_pos c with rfl | hc0
                      · have z6 : decide ((0 : Int) ≤ ((0 : Nat) : Int) - 1) = false := rfl
                        have z7 : decide ((0 : Int) ≤ -1) = false := rfl
                        obtain ⟨ff, hff⟩ : ∃ ff, Tm.fAt n b (Tm.bgs T) = ff := ⟨_, rfl⟩
                        rw [List.drop_zero, hff]
                        obtain ⟨FG, rfl, _, TF⟩ := row_some RF0.out (by have := HB1.out; omega)
                        have cf : (w9).cell? ⟨FG, b, none⟩ = some (.int .i64 (ff : Nat)) := by
                          have ft := HWH.out.fs.at' b (by rw [HFL.out]; exact HB1.out)
                          have fg : Fs[b]? = some ff := by
                            rw [List.getElem?_eq_getElem (by rw [HFL.out]; exact HB1.out)]
                            rw [hff, List.getD_eq_getElem?_getD, List.getElem?_eq_getElem (by rw [HFL.out]; exact HB1.out)] at ft
                            exact congrArg some ft
                          have := RF0.out.cells (g := FG) rfl b (.int .i64 (ff : Nat)) (by unfold nVs; rw [List.getElem?_map, fg]; rfl)
                          rwa [add_off, Nat.zero_add] at this
                        have zf : ((ff : Int) != (ff : Int)) = false := by simp
                        have zfn : (ff != ff) = false := by simp
                        clear hff
                        go_wp2_with fail
                        go_roundw
                        case rel => exact ⟨b + 1, HB1.out, by go_num, trivial⟩
                        case measure => simp [intOf]; have := HB1.out; omega
                      · obtain ⟨d, rfl⟩ : ∃ d, c = d + 1 := ⟨c - 1, by omega⟩
                        have w1' : (((d + 1 : Nat) : Int) - 1) = (d : Int) := by omega
                        rw [w1']
                        have w2' : decide ((0 : Int) ≤ (d : Int)) = true := decide_eq_true (by omega)
                        have w3 : IntKind.i64.wrap ((d : Int) - 1) = (d : Int) - 1 := by rw [IntKind.wrap_i64]; omega
                        have w4' : (0 : Int) ≤ (d : Int) := by omega
                        have w5' : (d : Int) < (BL : Int) := by omega
                        obtain ⟨GB, rfl, _, TGB⟩ := row_some RB0.out (by omega)
                        obtain ⟨g, hg⟩ : ∃ g, (Tm.bgs T)[d]? = some g := ⟨(Tm.bgs T)[d]'(by have := HBL.out; omega), List.getElem?_eq_getElem (by have := HBL.out; omega)⟩
                        have cg : (w9).cell? ⟨GB, d, none⟩ = some (.int .i64 (g : Nat)) := by
                          have := RB0.out.cells (g := GB) rfl d (.int .i64 (g : Nat)) (by unfold nVs; rw [List.getElem?_map, hg]; rfl)
                          rwa [add_off, Nat.zero_add] at this
                        have dd : (Tm.bgs T).drop d = g :: (Tm.bgs T).drop (d + 1) := by
                          have hd : d < (Tm.bgs T).length := by have := HBL.out; omega
                          rw [List.drop_eq_getElem_cons hd]
                          congr 1
                          rw [List.getElem?_eq_getElem hd] at hg
                          exact Option.some.inj hg
                        have DD := Lib.hid dd
                        have gb9 : g ≤ 5000000 := by
                          have := HWH.out.fs.inn g (List.mem_of_getElem? hg)
                          rw [HFL.out] at this
                          exact Nat.le_trans (Nat.le_of_lt this) (Nat.le_trans (Nat.mul_le_mul FLB.out HN.out.2) (by omega))
                        clear dd hg hc6
                        by_cases r1 : bn ≤ g
                        · have p1 : decide ((bn : Int) ≤ (g : Int)) = true := decide_eq_true (by omega)
                          have p1n : decide (bn ≤ g) = true := decide_eq_true r1
                          by_cases r2 : g < bn2
                          · have p2 : decide ((g : Int) < (bn2 : Int)) = true := decide_eq_true (by omega)
                            have p2n : decide (g < bn2) = true := decide_eq_true r2
                            obtain ⟨gi, hgi⟩ : ∃ gi, g - bn = gi := ⟨_, rfl⟩
                            have s1 : (g : Int) - (bn : Int) = (gi : Int) := by omega
                            have s2 : IntKind.i64.wrap (gi : Int) = (gi : Int) := by rw [IntKind.wrap_i64]; omega
                            have s3 : IntKind.i64.wrap ((g : Int) - (bn : Int)) = (gi : Int) := by rw [s1, s2]
                            have FE := Lib.hid (show Tm.fAt n b ((Tm.bgs T).drop d) = gi by rw [DD.out, Tm.fAt_yes (by rw [HBN.out]; exact r1) (by rw [HBN2.out]; exact r2), HBN.out]; exact hgi)
                            clear r1 r2 hgi
                            go_wp2_with fail
                            go_roundw
                            case rel => exact ⟨d, by omega, by first | rfl | rw [w3], by rw [FE.out], trivial⟩
                            case measure => first | (simp [intOf]; done) | (simp [intOf]; omega)
                          · have p2 : decide ((g : Int) < (bn2 : Int)) = false := decide_eq_false (by omega)
                            have p2n : decide (g < bn2) = false := decide_eq_false r2
                            have FE := Lib.hid (show Tm.fAt n b ((Tm.bgs T).drop d) = Tm.fAt n b ((Tm.bgs T).drop (d + 1)) by rw [DD.out, Tm.fAt_skip (by rw [HBN.out, HBN2.out]; omega)])
                            clear r1 r2
                            go_wp2_with fail
                            go_roundw
                            case rel => exact ⟨d, by omega, by first | rfl | rw [w3], by rw [FE.out], trivial⟩
                            case measure => first | (simp [intOf]; done) | (simp [intOf]; omega)
                        · have p1 : decide ((bn : Int) ≤ (g : Int)) = false := decide_eq_false (by omega)
                          have p1n : decide (bn ≤ g) = false := decide_eq_false r1
                          have FE := Lib.hid (show Tm.fAt n b ((Tm.bgs T).drop d) = Tm.fAt n b ((Tm.bgs T).drop (d + 1)) by rw [DD.out, Tm.fAt_skip (by rw [HBN.out, HBN2.out]; omega)])
                          clear r1
                          go_wp2_with fail
                          go_roundw
                          case rel => exact ⟨d, by omega, by first | rfl | rw [w3], by rw [FE.out], trivial⟩
                          case measure => first | (simp [intOf]; done) | (simp [intOf]; omega)
                  · have v1 : decide ((b : Int) < (FL : Int)) = false := decide_eq_false (by omega)
                    have v1n : decide (b < FL) = false := decide_eq_false g5
                    obtain ⟨RL, hRL⟩ : ∃ RL, ((Tm.real T).map bs).length = RL := ⟨_, rfl⟩
                    have we : W = (Tm.real T).map bs := by rw [HWA.out, ← AR.out]
                    have r1f := L9.out.r1
                    have rgf := RGF.out
                    have wl := WL.out
                    rw [we] at r1f wl
                    rw [hRL] at r1f rgf wl
                    have SS9 := Lib.hid (sameStrings_any ga' wa' RL gc' wc' z4 n1 ((Tm.real T).map bs) hRL (by have := I60.out; omega) w9 rgf r1f)
                    have wr9 : W.length = RL := by rw [we, hRL]
                    rw [hRL, wr9]
                    clear hb g5 hRL we r1f rgf wl wr9
                    go_wp2_with fail
                    (refine SS9.out.mono ?_)
                    rintro e w30 ⟨rfl, h30⟩
                    have L30 := Lib.hid (L9.out.below h30)
                    have WT30 := L30.out.wait GD.out
                    rw [WZ.out] at WT30
                    clear h30
                    go_wp2_with fail
                    (refine WT30.mono ?_)
                    rintro e w31 ⟨rfl, L31⟩
                    have B31 := Lib.hid (B1.out.trans (L31.bl.mono WN1.out))
                    clear L31 WT30
                    go_wp2_with fail
                    go_ret
                    exact ⟨rfl, B31.out⟩
        · have u1 : decide ((k : Int) < 700) = false := decide_eq_false (by omega)
          have u1n : decide (k < 700) = false := decide_eq_false q1
          have WZ := Lib.hid (show Tm.wait s.q = 0 by have := CBL.out; omega)
          have L3 := L2
          clear q1 hk
          go_wp2_with fail
          have Q0 := Lib.hid (Tm.flatten_nil_of HWH.out.run.full (List.eq_nil_of_length_eq_zero WZ.out))
          have FT := Lib.hid (show Tm.flat T = out ++ s.re by have := HWH.out.run.bytes; rw [Q0.out] at this; rw [this]; cases s.bg <;> simp [Tm.pend])
          have AR := Lib.hid (show A = Tm.real T by have := HWH.out.run.pks; rw [Q0.out] at this; rw [this]; cases s.bg <;> simp [Tm.later])
          obtain ⟨ol, hol⟩ : ∃ ol, out.length = ol := ⟨_, rfl⟩
          have OL := Lib.hid hol
          have sE : O.size = ol := by rw [← HO.out, bs_size, hol]
          have olb : ol ≤ 400000 := by rw [← sE]; exact sO
          obtain ⟨z4, hz4⟩ : ∃ z, wr.heap.size = z := ⟨_, rfl⟩
          have TL := Lib.hid (show T.length ≤ 60000 by
            have l := congrArg List.length FT.out
            rw [List.length_append] at l
            have := HWH.out.run.short
            have := flat_seven HWH.out.pk
            omega)
          have ZL := Lib.hid hz4.symm
          clear hol sO hz4
          go_loopw [11, 23, 24] (fun x11 x23 x24 wq => ∃ (j : Nat) (svg svb : Value), j ≤ T.length ∧ (Tm.flat (T.take j)).length ≤ ol ∧ x11 = .int .i64 ((Tm.flat (T.take j)).length : Nat) ∧ svg = x23 ∧ svb = x24 ∧ wq.ownsRow z4 9 1 svg ((Tm.real (T.take j)).map bs).length (strVs ((Tm.real (T.take j)).map bs)) ∧ wq.ownsRow z4 3 1 svb (Tm.bgs (T.take j)).length (nVs (Tm.bgs (T.take j))) ∧ Below z4 wr wq ∧ z4 ≤ wq.heap.size) (fun x11 _ _ _ => ol - (intOf x11).toNat)
          case atStart => exact ⟨0, _, _, Nat.zero_le _, Nat.zero_le _, rfl, rfl, rfl, World.ownsRow_nil _ _ _ _, World.ownsRow_nil _ _ _ _, Below.refl _ _, Nat.le_of_eq ZL.out⟩
          case round =>
            obtain ⟨j, svg, svb, hj, ha, rfl, rfl, rfl, hg, hb, hB, hzz⟩ := hrel
            have RG := Lib.hid hg
            have RB := Lib.hid hb
            have BZ := Lib.hid hB
            have HZ4 := Lib.hid hzz
            have BLN := Lib.hid (show (Tm.bgs (T.take j)).length ≤ 60000 by rw [Tm.bgs_len, List.length_take]; have := TL.out; omega)
            have RLN := Lib.hid (show ((Tm.real (T.take j)).map bs).length ≤ 60000 by
              rw [List.length_map]
              unfold Tm.real
              rw [List.length_map]
              have := List.length_filter_le (fun x : Bool × List UInt8 => !x.1) (T.take j)
              rw [List.length_take] at this
              have := TL.out
              omega)
            obtain ⟨a, haa⟩ : ∃ a, (Tm.flat (T.take j)).length = a := ⟨_, rfl⟩
            have HA := Lib.hid haa
            rw [haa] at ha ⊢
            clear hg hb hB hzz
            by_cases q : a < ol
            · have u1 : decide ((a : Int) < (ol : Int)) = true := decide_eq_true (by omega)
              have u1n : decide (a < ol) = true := decide_eq_true q
              have a0' : (0 : Int) ≤ (a : Int) := by omega
              have a1' : (a : Int) ≤ (ol : Int) := by omega
              obtain ⟨x, p, hx, e, ok, hi, hc⟩ := Tm.take_step HWH.out.pk FT.out HWH.out.run.short HWH.out.ends j (by rw [haa, OL.out]; exact q)
              rw [haa, OL.out] at hc
              have JL := Lib.hid (show j + 1 ≤ T.length from (List.getElem?_eq_some_iff.1 hx).1)
              have exx : (O.extract a ol).data.toList = out.drop a := by rw [← sE, rest_list _ _ (by omega), ← HO.out, bs_list]
              have TK := Lib.hid (fun w => ptake_any (O.extract a ol) (by rw [ByteArray.size_extract]; omega) w)
              rw [exx] at TK
              clear exx haa
              rcases hc with ⟨c1, c2, c3⟩ | ⟨c1, c2, c3, c4⟩
              · simp only [c2, tkV] at TK
                obtain ⟨kk, hkk⟩ : ∃ kk, (Pk.enc p).length = kk := ⟨_, rfl⟩
                rw [hkk] at TK c1 c3
                have KK1 := Lib.hid (show 1 ≤ kk by rw [← hkk, Pk.enc_len]; omega)
                obtain ⟨ak, hak⟩ : ∃ ak, a + kk = ak := ⟨_, rfl⟩
                rw [hak] at c1
                have C1 := Lib.hid (show ak ≤ ol ∧ a + kk = ak from ⟨c1, hak⟩)
                have y0 : (a : Int) + (kk : Int) = (ak : Int) := by omega
                have y1 : IntKind.i64.wrap (ak : Int) = (ak : Int) := by rw [IntKind.wrap_i64]; omega
                have y2 : IntKind.i64.wrap ((a : Int) + (kk : Int)) = (ak : Int) := by rw [IntKind.wrap_i64]; omega
                have y3 : decide ((kk : Int) < 1) = false := decide_eq_false (by have := KK1.out; omega)
                have y4 : decide ((ol : Int) < (ak : Int)) = false := decide_eq_false (by omega)
                have y4n : decide (ol < ak) = false := decide_eq_false (by omega)
                have aak : a ≤ ak := by omega
                have akl : ak ≤ ol := by omega
                have E1 := Lib.hid (show (Tm.flat (T.take (j + 1))).length = ak by rw [Tm.flat_succ hx, List.length_append, HA.out, e, hkk]; exact hak)
                have CUT := Lib.hid (show O.extract a ak = bs (Pk.enc p) by
                  apply ByteArray.ext
                  apply Array.toList_inj.1
                  rw [ext_list _ _ _ aak, bs_list, ← c3, ← HO.out, bs_list, List.drop_take, ← hak, Nat.add_sub_cancel_left])
                have ENC := Lib.hid e
                clear c1 c2 c3 hak hkk
                go_wp2_with fail
                (refine (TK.out _).mono ?_)
                rintro e w5 ⟨rfl, h5⟩
                have H5 := Lib.hid h5
                clear h5 TK
                by_cases hr : x.1 = true
                · have apn : (p.ap != 2047) = false := by rw [hi.1 hr]; rfl
                  go_wp2_with (first
                  | ((with_reducible refine atList ?_); refine wpList_newT rfl (.alloc 63) rfl (some 25) rfl #[.bool false, .int .i64 0, .int .i64 0, .int .i64 0, .string ⟨#[]⟩] 63 (fun X => .pointer (some ⟨X, 0, none⟩)) 5 (pkCel ⟨false, 0, 0, 0, ⟨#[]⟩⟩) (pkc_cells ⟨false, 0, 0, 0, ⟨#[]⟩⟩) (alloc_pk rfl) ?_; intro V w6 HV SV CV LV TV)
                  | ((with_reducible refine atList ?_); refine wpList_setAllT rfl 63 (.tmp 25) (.tmp 139) rfl V 5 [.bool p.cmd, .int .i64 p.ap, .int .i64 p.fl, .int .i64 p.ct, .string p.da] _ (pkCel p) CV.out rfl (pkc_list p) rfl rfl pkc_info (by simp [Value.oneCell']) ?_; intro w7 C7 U7 S7 V7; have BW7 := Lib.hid (But.under (bt H5.out LV.out) U7.out (by have := HV.out; have := H5.out.size; omega)); have RB7 := Lib.hid (own_below RB.out BW7.out); have RG7 := Lib.hid (own_below RG.out BW7.out); have hz7 := Lib.hid (Nat.le_trans HZ4.out BW7.out.size))
                  | ((with_reducible refine atList ?_); refine wpList_newRow rfl (.buildSlice 41 1 #[(0, .tmp 163)]) rfl [.int .i64 (a : Nat)] 3 1 z4 rfl (by unfold maxLen; omega) hz7.out (build_int1 rfl rfl) ?_; intro A8 w8 HA8 OA8 LA8)
                  | (at_builtin; (with_reducible refine atList ?_); refine wpList_append_own2 rfl (.tmp 162) (.tmp 164) 41 rfl z4 3 j0 (.int .i64 0) 1 8 Try.underlying41 hj0 hy0 hy1 hy2 rfl (by decide) _ (Tm.bgs (T.take j)).length _ rfl (own_below RB7.out LA8.out) ⟨A8, 0, none⟩ 1 1 [.int .i64 (a : Nat)] rfl rfl (row_cells OA8.out ⟨A8, 0, none⟩ rfl) (by simp [Value.oneCell']) (by unfold maxLen; have := BLN.out; omega) (by have := BLN.out; omega) (Nat.le_trans hz7.out LA8.out.size) ?_; intro v9 w9 O9 g9 k9; have RB9 := Lib.hid O9; have RG9 := Lib.hid (own_keep (own_below RG7.out LA8.out) (fun g hg hl => g9.block g hl (fun e => ty_ne (own_ty (own_below RG7.out LA8.out) hg).2 (own_ty (own_below RB7.out LA8.out) e.symm).2 (by decide) rfl))); have B9 := Lib.hid ((BZ.out.trans ((bt BW7.out LA8.out).mono HZ4.out)).grown g9 (Nat.le_trans hz7.out LA8.out.size) (fun k e => (own_ty (own_below RB7.out LA8.out) e).1)); have hz9 := Lib.hid (Nat.le_trans (Nat.le_trans hz7.out LA8.out.size) g9.size); have TV7 := V7.out _ TV.out; have cap9 : w9.cell? ⟨V, 1, none⟩ = some (.int .i64 p.ap) := (World.cell?_of_block (a := ⟨V, 1, none⟩) (g9.block V (Nat.lt_of_lt_of_le TV7.lt LA8.out.size) (fun e => ty_ne (TV7.below LA8.out) (own_ty (own_below RB7.out LA8.out) e.symm).2 (by decide) rfl))).trans ((LA8.out.cell (p := ⟨V, 1, none⟩) TV7.lt).trans (C7.out.cell (j := 1) (by omega))); clear O9 g9 k9))
                  go_roundw
                  case rel => exact ⟨j + 1, _, _, JL.out, by rw [E1.out]; have := C1.out; omega, by rw [E1.out], rfl, rfl, by rw [Tm.real_succ hx, if_pos hr, List.append_nil]; exact RG9.out, by rw [Tm.bgs_succ hx, List.length_append, ← nVs_add, HA.out]; exact RB9.out, B9.out, hz9.out⟩
                  case measure => simp [intOf]; have := C1.out; have := KK1.out; omega
                · have apn : (p.ap != 2047) = true := by simpa using fun q => hr (hi.2 q)
                  go_wp2_with (first
                  | ((with_reducible refine atList ?_); refine wpList_newT rfl (.alloc 63) rfl (some 25) rfl #[.bool false, .int .i64 0, .int .i64 0, .int .i64 0, .string ⟨#[]⟩] 63 (fun X => .pointer (some ⟨X, 0, none⟩)) 5 (pkCel ⟨false, 0, 0, 0, ⟨#[]⟩⟩) (pkc_cells ⟨false, 0, 0, 0, ⟨#[]⟩⟩) (alloc_pk rfl) ?_; intro V w6 HV SV CV LV TV)
                  | ((with_reducible refine atList ?_); refine wpList_setAllT rfl 63 (.tmp 25) (.tmp 139) rfl V 5 [.bool p.cmd, .int .i64 p.ap, .int .i64 p.fl, .int .i64 p.ct, .string p.da] _ (pkCel p) CV.out rfl (pkc_list p) rfl rfl pkc_info (by simp [Value.oneCell']) ?_; intro w7 C7 U7 S7 V7; have BW7 := Lib.hid (But.under (bt H5.out LV.out) U7.out (by have := HV.out; have := H5.out.size; omega)); have RB7 := Lib.hid (own_below RB.out BW7.out); have RG7 := Lib.hid (own_below RG.out BW7.out); have hz7 := Lib.hid (Nat.le_trans HZ4.out BW7.out.size))
                  | ((with_reducible refine atList ?_); refine wpList_newRow rfl (.buildSlice 41 1 #[(0, .tmp 163)]) rfl [.int .i64 (a : Nat)] 3 1 z4 rfl (by unfold maxLen; omega) hz7.out (build_int1 rfl rfl) ?_; intro A8 w8 HA8 OA8 LA8)
                  | (at_builtin; (with_reducible refine atList ?_); refine wpList_append_own2 rfl (.tmp 162) (.tmp 164) 41 rfl z4 3 j0 (.int .i64 0) 1 8 Try.underlying41 hj0 hy0 hy1 hy2 rfl (by decide) _ (Tm.bgs (T.take j)).length _ rfl (own_below RB7.out LA8.out) ⟨A8, 0, none⟩ 1 1 [.int .i64 (a : Nat)] rfl rfl (row_cells OA8.out ⟨A8, 0, none⟩ rfl) (by simp [Value.oneCell']) (by unfold maxLen; have := BLN.out; omega) (by have := BLN.out; omega) (Nat.le_trans hz7.out LA8.out.size) ?_; intro v9 w9 O9 g9 k9; have RB9 := Lib.hid O9; have RG9 := Lib.hid (own_keep (own_below RG7.out LA8.out) (fun g hg hl => g9.block g hl (fun e => ty_ne (own_ty (own_below RG7.out LA8.out) hg).2 (own_ty (own_below RB7.out LA8.out) e.symm).2 (by decide) rfl))); have B9 := Lib.hid ((BZ.out.trans ((bt BW7.out LA8.out).mono HZ4.out)).grown g9 (Nat.le_trans hz7.out LA8.out.size) (fun k e => (own_ty (own_below RB7.out LA8.out) e).1)); have hz9 := Lib.hid (Nat.le_trans (Nat.le_trans hz7.out LA8.out.size) g9.size); have TV7 := V7.out _ TV.out; have cap9 : w9.cell? ⟨V, 1, none⟩ = some (.int .i64 p.ap) := (World.cell?_of_block (a := ⟨V, 1, none⟩) (g9.block V (Nat.lt_of_lt_of_le TV7.lt LA8.out.size) (fun e => ty_ne (TV7.below LA8.out) (own_ty (own_below RB7.out LA8.out) e.symm).2 (by decide) rfl))).trans ((LA8.out.cell (p := ⟨V, 1, none⟩) TV7.lt).trans (C7.out.cell (j := 1) (by omega))); clear O9 g9 k9)
                  | ((with_reducible refine atList ?_); refine wpList_newRow rfl (.buildSlice 61 1 #[(0, .tmp 175)]) rfl [.string (O.extract a ak)] 9 1 z4 rfl (by unfold maxLen; omega) hz9.out (build_strs1 rfl rfl) ?_; intro A10 w10 HA10 OA10 LA10)
                  | (at_builtin; (with_reducible refine atList ?_); refine wpList_append_own2 rfl (.tmp 169) (.tmp 176) 61 rfl z4 9 i0 (.string ⟨#[]⟩) 1 16 Try.underlying61 hi0 hz0 hz1 hz2 rfl (by decide) _ ((Tm.real (T.take j)).map bs).length _ rfl (own_below RG9.out LA10.out) ⟨A10, 0, none⟩ 1 1 [.string (O.extract a ak)] rfl rfl (row_cells OA10.out ⟨A10, 0, none⟩ rfl) (by simp [Value.oneCell']) (by unfold maxLen; have := RLN.out; omega) (by have := RLN.out; omega) (Nat.le_trans hz9.out LA10.out.size) ?_; intro v11 w11 O11 g11 k11; have RG11 := Lib.hid O11; have RB11 := Lib.hid (own_keep (own_below RB9.out LA10.out) (fun g hg hl => g11.block g hl (fun e => ty_ne (own_ty (own_below RB9.out LA10.out) hg).2 (own_ty (own_below RG9.out LA10.out) e.symm).2 (by decide) rfl))); have B11 := Lib.hid ((B9.out.trans (LA10.out.mono hz9.out)).grown g11 (Nat.le_trans hz9.out LA10.out.size) (fun k e => (own_ty (own_below RG9.out LA10.out) e).1)); have hz11 := Lib.hid (Nat.le_trans (Nat.le_trans hz9.out LA10.out.size) g11.size); clear O11 g11 k11))
                  go_roundw
                  case rel => exact ⟨j + 1, _, _, JL.out, by rw [E1.out]; have := C1.out; omega, by rw [E1.out], rfl, rfl, by rw [Tm.real_succ hx, if_neg hr, List.map_append, List.length_append, show [x.2].map bs = [bs x.2] from rfl, ← strVs_add, ENC.out, ← CUT.out]; exact RG11.out, by rw [Tm.bgs_succ hx, List.length_append, ← nVs_add, HA.out]; exact RB11.out, B11.out, hz11.out⟩
                  case measure => simp [intOf]; have := C1.out; have := KK1.out; omega
              · simp only [c2, tkV] at TK
                clear c1 c2
                go_wp2_with fail
                (refine (TK.out _).mono ?_)
                rintro e w5 ⟨rfl, h5⟩
                have H5 := Lib.hid h5
                clear h5 TK
                go_wp2_with (first
                  | ((with_reducible refine atList ?_); refine wpList_newT rfl (.alloc 63) rfl (some 25) rfl #[.bool false, .int .i64 0, .int .i64 0, .int .i64 0, .string ⟨#[]⟩] 63 (fun X => .pointer (some ⟨X, 0, none⟩)) 5 (pkCel ⟨false, 0, 0, 0, ⟨#[]⟩⟩) (pkc_cells ⟨false, 0, 0, 0, ⟨#[]⟩⟩) (alloc_pk rfl) ?_; intro V w6 HV SV CV LV TV)
                  | ((with_reducible refine atList ?_); refine wpList_setAllT rfl 63 (.tmp 25) (.tmp 139) rfl V 5 [.bool pk0.cmd, .int .i64 pk0.ap, .int .i64 pk0.fl, .int .i64 pk0.ct, .string pk0.da] _ (pkCel pk0) CV.out rfl (pkc_list pk0) rfl rfl pkc_info (by simp [Value.oneCell']) ?_; intro w7 C7 U7 S7 V7; have BW7 := Lib.hid (But.under (bt H5.out LV.out) U7.out (by have := HV.out; have := H5.out.size; omega)); have RB7 := Lib.hid (own_below RB.out BW7.out); have RG7 := Lib.hid (own_below RG.out BW7.out); have hz7 := Lib.hid (Nat.le_trans HZ4.out BW7.out.size))
                  | ((with_reducible refine atList ?_); refine wpList_newRow rfl (.buildSlice 41 1 #[(0, .tmp 145)]) rfl [.int .i64 (a : Nat)] 3 1 z4 rfl (by unfold maxLen; omega) hz7.out (build_int1 rfl rfl) ?_; intro A8 w8 HA8 OA8 LA8)
                  | (at_builtin; (with_reducible refine atList ?_); refine wpList_append_own2 rfl (.tmp 144) (.tmp 146) 41 rfl z4 3 j0 (.int .i64 0) 1 8 Try.underlying41 hj0 hy0 hy1 hy2 rfl (by decide) _ (Tm.bgs (T.take j)).length _ rfl (own_below RB7.out LA8.out) ⟨A8, 0, none⟩ 1 1 [.int .i64 (a : Nat)] rfl rfl (row_cells OA8.out ⟨A8, 0, none⟩ rfl) (by simp [Value.oneCell']) (by unfold maxLen; have := BLN.out; omega) (by have := BLN.out; omega) (Nat.le_trans hz7.out LA8.out.size) ?_; intro v9 w9 O9 g9 k9; have RB9 := Lib.hid O9; have RG9 := Lib.hid (own_keep (own_below RG7.out LA8.out) (fun g hg hl => g9.block g hl (fun e => ty_ne (own_ty (own_below RG7.out LA8.out) hg).2 (own_ty (own_below RB7.out LA8.out) e.symm).2 (by decide) rfl))); have B9 := Lib.hid ((BZ.out.trans ((bt BW7.out LA8.out).mono HZ4.out)).grown g9 (Nat.le_trans hz7.out LA8.out.size) (fun k e => (own_ty (own_below RB7.out LA8.out) e).1)); have hz9 := Lib.hid (Nat.le_trans (Nat.le_trans hz7.out LA8.out.size) g9.size); clear O9 g9 k9))
                have tT : T.take (j + 1) = T := List.take_of_length_le (by omega)
                have bT := Tm.bgs_succ hx
                have rT := Tm.real_succ hx
                rw [tT] at bT rT
                rw [if_pos c4, List.append_nil] at rT
                have RBF := Lib.hid (show w9.ownsRow z4 3 1 v9 (Tm.bgs T).length (nVs (Tm.bgs T)) by rw [bT, List.length_append, ← nVs_add, HA.out]; exact RB9.out)
                have RGF := Lib.hid (show w9.ownsRow z4 9 1 svg ((Tm.real T).map bs).length (strVs ((Tm.real T).map bs)) by rw [rT]; exact RG9.out)
                have L9 := Lib.hid (L3.out.below (by rw [← ZL.out]; exact B9.out))
                clear tT bT rT hx c3 c4 hi e ok
                have rbf := RBF.out
                have rgf := RGF.out
                have lr2 := L9.out.r2
                have lr1 := L9.out.r1
                obtain ⟨ba', bc', rfl⟩ := own_is rbf
                obtain ⟨ga', gc', rfl⟩ := own_is rgf
                obtain ⟨fa', fc', rfl⟩ := own_is lr2
                obtain ⟨wa', wc', rfl⟩ := own_is lr1
                obtain ⟨BL, hBL⟩ : ∃ BL, (Tm.bgs T).length = BL := ⟨_, rfl⟩
                obtain ⟨FL, hFL⟩ : ∃ FL, Fs.length = FL := ⟨_, rfl⟩
                rw [hBL] at rbf
                rw [hFL] at lr2
                have HBL := Lib.hid hBL
                have HFL := Lib.hid hFL
                have RB0 := Lib.hid rbf
                have RF0 := Lib.hid lr2
                have FLB := Lib.hid (show FL ≤ 20000 by rw [← hFL]; exact FB.out)
                have BLB := Lib.hid (show BL ≤ 60000 by rw [← hBL, Tm.bgs_len]; exact TL.out)
                rw [hBL, hFL]
                clear rbf rgf lr2 lr1 hBL hFL
                go_loopw [28] (fun x28 wz => ∃ b : Nat, b ≤ FL ∧ x28 = .int .i64 b ∧ w9 = wz) (fun x28 _ => FL - (intOf x28).toNat)
                case atStart => exact ⟨0, Nat.zero_le _, rfl, rfl⟩
                case round =>
                  obtain ⟨b, hb, rfl, rfl⟩ := hrel
                  by_cases g5 : b < FL
                  · have v1 : decide ((b : Int) < (FL : Int)) = true := decide_eq_true (by omega)
                    have v1n : decide (b < FL) = true := decide_eq_true g5
                    have b0' : (0 : Int) ≤ (b : Int) := by omega
                    have b1' : (b : Int) < (FL : Int) := by omega
                    have HB1 := Lib.hid (show b + 1 ≤ FL from g5)
                    have flb := FLB.out
                    have blb := BLB.out
                    have nn := HN.out.2
                    obtain ⟨bn, hbn⟩ : ∃ bn, b * n = bn := ⟨_, rfl⟩
                    obtain ⟨bn2, hbn2⟩ : ∃ bn2, (b + 1) * n = bn2 := ⟨_, rfl⟩
                    have bnb : bn ≤ 4000000 := by rw [← hbn]; exact Nat.le_trans (Nat.mul_le_mul (show b ≤ 20000 by omega) nn) (by omega)
                    have bnb2 : bn2 ≤ 5000000 := by rw [← hbn2]; exact Nat.le_trans (Nat.mul_le_mul (show b + 1 ≤ 20001 by omega) nn) (by omega)
                    have m1 : (b : Int) * (n : Int) = (bn : Int) := by rw [← hbn]; simp
                    have m2 : ((b : Int) + 1) * (n : Int) = (bn2 : Int) := by rw [← hbn2]; simp
                    have m3 : IntKind.i64.wrap (bn : Int) = (bn : Int) := by rw [IntKind.wrap_i64]; omega
                    have m4 : IntKind.i64.wrap (bn2 : Int) = (bn2 : Int) := by rw [IntKind.wrap_i64]; omega
                    have m5 : IntKind.i64.wrap ((b : Int) * (n : Int)) = (bn : Int) := by rw [m1, m3]
                    have m6 : IntKind.i64.wrap (((b : Int) + 1) * (n : Int)) = (bn2 : Int) := by rw [m2, m4]
                    have m7 : IntKind.i64.wrap ((b : Int) + 1) = (b : Int) + 1 := by rw [IntKind.wrap_i64]; omega
                    have m8 : IntKind.i64.wrap ((BL : Int) - 1) = (BL : Int) - 1 := by rw [IntKind.wrap_i64]; omega
                    have HBN := Lib.hid hbn
                    have HBN2 := Lib.hid hbn2
                    clear hb g5 hbn hbn2 nn
                    go_wp2_with fail
                    go_loopw [29, 30] (fun x29 x30 wz => ∃ c : Nat, c ≤ BL ∧ x30 = .int .i64 ((c : Int) - 1) ∧ x29 = .int .i64 (Tm.fAt n b ((Tm.bgs T).drop c) : Nat) ∧ w9 = wz) (fun _ x30 _ => (intOf x30 + 1).toNat)
                    case atStart => exact ⟨BL, Nat.le_refl _, rfl, by rw [← HBL.out, List.drop_length]; rfl, rfl⟩
                    case round =>
                      obtain ⟨c, hc6, rfl, rfl, rfl⟩ := hrel
                      rcases Nat.eq_zero_or_pos c with rfl | hc0
                      · have z6 : decide ((0 : Int) ≤ ((0 : Nat) : Int) - 1) = false := rfl
                        have z7 : decide ((0 : Int) ≤ -1) = false := rfl
                        obtain ⟨ff, hff⟩ : ∃ ff, Tm.fAt n b (Tm.bgs T) = ff := ⟨_, rfl⟩
                        rw [List.drop_zero, hff]
                        obtain ⟨FG, rfl, _, TF⟩ := row_some RF0.out (by have := HB1.out; omega)
                        have cf : (w9).cell? ⟨FG, b, none⟩ = some (.int .i64 (ff : Nat)) := by
                          have ft := HWH.out.fs.at' b (by rw [HFL.out]; exact HB1.out)
                          have fg : Fs[b]? = some ff := by
                            rw [List.getElem?_eq_getElem (by rw [HFL.out]; exact HB1.out)]
                            rw [hff, List.getD_eq_getElem?_getD, List.getElem?_eq_getElem (by rw [HFL.out]; exact HB1.out)] at ft
                            exact congrArg some ft
                          have := RF0.out.cells (g := FG) rfl b (.int .i64 (ff : Nat)) (by unfold nVs; rw [List.getElem?_map, fg]; rfl)
                          rwa [add_off, Nat.zero_add] at this
                        have zf : ((ff : Int) != (ff : Int)) = false := by simp
                        have zfn : (ff != ff) = false := by simp
                        clear hff
                        go_wp2_with fail
                        go_roundw
                        case rel => exact ⟨b + 1, HB1.out, by go_num, trivial⟩
                        case measure => simp [intOf]; have := HB1.out; omega
                      · obtain ⟨d, rfl⟩ : ∃ d, c = d + 1 := ⟨c - 1, by omega⟩
                        have w1' : (((d + 1 : Nat) : Int) - 1) = (d : Int) := by omega
                        rw [w1']
                        have w2' : decide ((0 : Int) ≤ (d : Int)) = true := decide_eq_true (by omega)
                        have w3 : IntKind.i64.wrap ((d : Int) - 1) = (d : Int) - 1 := by rw [IntKind.wrap_i64]; omega
                        have w4' : (0 : Int) ≤ (d : Int) := by omega
                        have w5' : (d : Int) < (BL : Int) := by omega
                        obtain ⟨GB, rfl, _, TGB⟩ := row_some RB0.out (by omega)
                        obtain ⟨g, hg⟩ : ∃ g, (Tm.bgs T)[d]? = some g := ⟨(Tm.bgs T)[d]'(by have := HBL.out; omega), List.getElem?_eq_getElem (by have := HBL.out; omega)⟩
                        have cg : (w9).cell? ⟨GB, d, none⟩ = some (.int .i64 (g : Nat)) := by
                          have := RB0.out.cells (g := GB) rfl d (.int .i64 (g : Nat)) (by unfold nVs; rw [List.getElem?_map, hg]; rfl)
                          rwa [add_off, Nat.zero_add] at this
                        have dd : (Tm.bgs T).drop d = g :: (Tm.bgs T).drop (d + 1) := by
                          have hd : d < (Tm.bgs T).length := by have := HBL.out; omega
                          rw [List.drop_eq_getElem_cons hd]
                          congr 1
                          rw [List.getElem?_eq_getElem hd] at hg
                          exact Option.some.inj hg
                        have DD := Lib.hid dd
                        have gb9 : g ≤ 5000000 := by
                          have := HWH.out.fs.inn g (List.mem_of_getElem? hg)
                          rw [HFL.out] at this
                          exact Nat.le_trans (Nat.le_of_lt this) (Nat.le_trans (Nat.mul_le_mul FLB.out HN.out.2) (by omega))
                        clear dd hg hc6
                        by_cases r1 : bn ≤ g
                        · have p1 : decide ((bn : Int) ≤ (g : Int)) = true := decide_eq_true (by omega)
                          have p1n : decide (bn ≤ g) = true := decide_eq_true r1
                          by_cases r2 : g < bn2
                          · have p2 : decide ((g : Int) < (bn2 : Int)) = true := decide_eq_true (by omega)
                            have p2n : decide (g < bn2) = true := decide_eq_true r2
                            obtain ⟨gi, hgi⟩ : ∃ gi, g - bn = gi := ⟨_, rfl⟩
                            have s1 : (g : Int) - (bn : Int) = (gi : Int) := by omega
                            have s2 : IntKind.i64.wrap (gi : Int) = (gi : Int) := by rw [IntKind.wrap_i64]; omega
                            have s3 : IntKind.i64.wrap ((g : Int) - (bn : Int)) = (gi : Int) := by rw [s1, s2]
                            have FE := Lib.hid (show Tm.fAt n b ((Tm.bgs T).drop d) = gi by rw [DD.out, Tm.fAt_yes (by rw [HBN.out]; exact r1) (by rw [HBN2.out]; exact r2), HBN.out]; exact hgi)
                            clear r1 r2 hgi
                            go_wp2_with fail
                            go_roundw
                            case rel => exact ⟨d, by omega, by first | rfl | rw [w3], by rw [FE.out], trivial⟩
                            case measure => first | (simp [intOf]; done) | (simp [intOf]; omega)
                          · have p2 : decide ((g : Int) < (bn2 : Int)) = false := decide_eq_false (by omega)
                            have p2n : decide (g < bn2) = false := decide_eq_false r2
                            have FE := Lib.hid (show Tm.fAt n b ((Tm.bgs T).drop d) = Tm.fAt n b ((Tm.bgs T).drop (d + 1)) by rw [DD.out, Tm.fAt_skip (by rw [HBN.out, HBN2.out]; omega)])
                            clear r1 r2
                            go_wp2_with fail
                            go_roundw
                            case rel => exact ⟨d, by omega, by first | rfl | rw [w3], by rw [FE.out], trivial⟩
                            case measure => first | (simp [intOf]; done) | (simp [intOf]; omega)
                        · have p1 : decide ((bn : Int) ≤ (g : Int)) = false := decide_eq_false (by omega)
                          have p1n : decide (bn ≤ g) = false := decide_eq_false r1
                          have FE := Lib.hid (show Tm.fAt n b ((Tm.bgs T).drop d) = Tm.fAt n b ((Tm.bgs T).drop (d + 1)) by rw [DD.out, Tm.fAt_skip (by rw [HBN.out, HBN2.out]; omega)])
                          clear r1
                          go_wp2_with fail
                          go_roundw
                          case rel => exact ⟨d, by omega, by first | rfl | rw [w3], by rw [FE.out], trivial⟩
                          case measure => first | (simp [intOf]; done) | (simp [intOf]; omega)
                  · have v1 : decide ((b : Int) < (FL : Int)) = false := decide_eq_false (by omega)
                    have v1n : decide (b < FL) = false := decide_eq_false g5
                    obtain ⟨RL, hRL⟩ : ∃ RL, ((Tm.real T).map bs).length = RL := ⟨_, rfl⟩
                    have we : W = (Tm.real T).map bs := by rw [HWA.out, ← AR.out]
                    have r1f := L9.out.r1
                    have rgf := RGF.out
                    have wl := WL.out
                    rw [we] at r1f wl
                    rw [hRL] at r1f rgf wl
                    have SS9 := Lib.hid (sameStrings_any ga' wa' RL gc' wc' z4 n1 ((Tm.real T).map bs) hRL (by have := I60.out; omega) w9 rgf r1f)
                    have wr9 : W.length = RL := by rw [we, hRL]
                    rw [hRL, wr9]
                    clear hb g5 hRL we r1f rgf wl wr9
                    go_wp2_with fail
                    (refine SS9.out.mono ?_)
                    rintro e w30 ⟨rfl, h30⟩
                    have L30 := Lib.hid (L9.out.below h30)
                    have WT30 := L30.out.wait GD.out
                    rw [WZ.out] at WT30
                    clear h30
                    go_wp2_with fail
                    (refine WT30.mono ?_)
                    rintro e w31 ⟨rfl, L31⟩
                    have B31 := Lib.hid (B1.out.trans (L31.bl.mono WN1.out))
                    clear L31 WT30
                    go_wp2_with fail
                    go_ret
                    exact ⟨rfl, B31.out⟩
            · have u1 : decide ((a : Int) < (ol : Int)) = false := decide_eq_false (by omega)
              have u1n : decide (a < ol) = false := decide_eq_false q
              have jT := Tm.take_end HWH.out.pk FT.out HWH.out.run.short j hj (by rw [haa, OL.out]; omega)
              clear q ha
              go_wp2_with fail
              rename World => w9
              have tT : T.take j = T := List.take_of_length_le (by omega)
              have RBF := Lib.hid (show w9.ownsRow z4 3 1 svb (Tm.bgs T).length (nVs (Tm.bgs T)) by have := RB.out; rw [tT] at this; exact this)
              have RGF := Lib.hid (show w9.ownsRow z4 9 1 svg ((Tm.real T).map bs).length (strVs ((Tm.real T).map bs)) by have := RG.out; rw [tT] at this; exact this)
              have L9 := Lib.hid (L3.out.below (by rw [← ZL.out]; exact BZ.out))
              clear tT jT
              have rbf := RBF.out
              have rgf := RGF.out
              have lr2 := L9.out.r2
              have lr1 := L9.out.r1
              obtain ⟨ba', bc', rfl⟩ := own_is rbf
              obtain ⟨ga', gc', rfl⟩ := own_is rgf
              obtain ⟨fa', fc', rfl⟩ := own_is lr2
              obtain ⟨wa', wc', rfl⟩ := own_is lr1
              obtain ⟨BL, hBL⟩ : ∃ BL, (Tm.bgs T).length = BL := ⟨_, rfl⟩
              obtain ⟨FL, hFL⟩ : ∃ FL, Fs.length = FL := ⟨_, rfl⟩
              rw [hBL] at rbf
              rw [hFL] at lr2
              have HBL := Lib.hid hBL
              have HFL := Lib.hid hFL
              have RB0 := Lib.hid rbf
              have RF0 := Lib.hid lr2
              have FLB := Lib.hid (show FL ≤ 20000 by rw [← hFL]; exact FB.out)
              have BLB := Lib.hid (show BL ≤ 60000 by rw [← hBL, Tm.bgs_len]; exact TL.out)
              rw [hBL, hFL]
              clear rbf rgf lr2 lr1 hBL hFL
              go_loopw [28] (fun x28 wz => ∃ b : Nat, b ≤ FL ∧ x28 = .int .i64 b ∧ w9 = wz) (fun x28 _ => FL - (intOf x28).toNat)
              case atStart => exact ⟨0, Nat.zero_le _, rfl, rfl⟩
              case round =>
                obtain ⟨b, hb, rfl, rfl⟩ := hrel
                by_cases g5 : b < FL
                · have v1 : decide ((b : Int) < (FL : Int)) = true := decide_eq_true (by omega)
                  have v1n : decide (b < FL) = true := decide_eq_true g5
                  have b0' : (0 : Int) ≤ (b : Int) := by omega
                  have b1' : (b : Int) < (FL : Int) := by omega
                  have HB1 := Lib.hid (show b + 1 ≤ FL from g5)
                  have flb := FLB.out
                  have blb := BLB.out
                  have nn := HN.out.2
                  obtain ⟨bn, hbn⟩ : ∃ bn, b * n = bn := ⟨_, rfl⟩
                  obtain ⟨bn2, hbn2⟩ : ∃ bn2, (b + 1) * n = bn2 := ⟨_, rfl⟩
                  have bnb : bn ≤ 4000000 := by rw [← hbn]; exact Nat.le_trans (Nat.mul_le_mul (show b ≤ 20000 by omega) nn) (by omega)
                  have bnb2 : bn2 ≤ 5000000 := by rw [← hbn2]; exact Nat.le_trans (Nat.mul_le_mul (show b + 1 ≤ 20001 by omega) nn) (by omega)
                  have m1 : (b : Int) * (n : Int) = (bn : Int) := by rw [← hbn]; simp
                  have m2 : ((b : Int) + 1) * (n : Int) = (bn2 : Int) := by rw [← hbn2]; simp
                  have m3 : IntKind.i64.wrap (bn : Int) = (bn : Int) := by rw [IntKind.wrap_i64]; omega
                  have m4 : IntKind.i64.wrap (bn2 : Int) = (bn2 : Int) := by rw [IntKind.wrap_i64]; omega
                  have m5 : IntKind.i64.wrap ((b : Int) * (n : Int)) = (bn : Int) := by rw [m1, m3]
                  have m6 : IntKind.i64.wrap (((b : Int) + 1) * (n : Int)) = (bn2 : Int) := by rw [m2, m4]
                  have m7 : IntKind.i64.wrap ((b : Int) + 1) = (b : Int) + 1 := by rw [IntKind.wrap_i64]; omega
                  have m8 : IntKind.i64.wrap ((BL : Int) - 1) = (BL : Int) - 1 := by rw [IntKind.wrap_i64]; omega
                  have HBN := Lib.hid hbn
                  have HBN2 := Lib.hid hbn2
                  clear hb g5 hbn hbn2 nn
                  go_wp2_with fail
                  go_loopw [29, 30] (fun x29 x30 wz => ∃ c : Nat, c ≤ BL ∧ x30 = .int .i64 ((c : Int) - 1) ∧ x29 = .int .i64 (Tm.fAt n b ((Tm.bgs T).drop c) : Nat) ∧ w9 = wz) (fun _ x30 _ => (intOf x30 + 1).toNat)
                  case atStart => exact ⟨BL, Nat.le_refl _, rfl, by rw [← HBL.out, List.drop_length]; rfl, rfl⟩
                  case round =>
                    obtain ⟨c, hc6, rfl, rfl, rfl⟩ := hrel
                    rcases Nat.eq_zero_or_pos c with rfl | hc0
                    · have z6 : decide ((0 : Int) ≤ ((0 : Nat) : Int) - 1) = false := rfl
                      have z7 : decide ((0 : Int) ≤ -1) = false := rfl
                      obtain ⟨ff, hff⟩ : ∃ ff, Tm.fAt n b (Tm.bgs T) = ff := ⟨_, rfl⟩
                      rw [List.drop_zero, hff]
                      obtain ⟨FG, rfl, _, TF⟩ := row_some RF0.out (by have := HB1.out; omega)
                      have cf : (w9).cell? ⟨FG, b, none⟩ = some (.int .i64 (ff : Nat)) := by
                        have ft := HWH.out.fs.at' b (by rw [HFL.out]; exact HB1.out)
                        have fg : Fs[b]? = some ff := by
                          rw [List.getElem?_eq_getElem (by rw [HFL.out]; exact HB1.out)]
                          rw [hff, List.getD_eq_getElem?_getD, List.getElem?_eq_getElem (by rw [HFL.out]; exact HB1.out)] at ft
                          exact congrArg some ft
                        have := RF0.out.cells (g := FG) rfl b (.int .i64 (ff : Nat)) (by unfold nVs; rw [List.getElem?_map, fg]; rfl)
                        rwa [add_off, Nat.zero_add] at this
                      have zf : ((ff : Int) != (ff : Int)) = false := by simp
                      have zfn : (ff != ff) = false := by simp
                      clear hff
                      go_wp2_with fail
                      go_roundw
                      case rel => exact ⟨b + 1, HB1.out, by go_num, trivial⟩
                      case measure => simp [intOf]; have := HB1.out; omega
                    · obtain ⟨d, rfl⟩ : ∃ d, c = d + 1 := ⟨c - 1, by omega⟩
                      have w1' : (((d + 1 : Nat) : Int) - 1) = (d : Int) := by omega
                      rw [w1']
                      have w2' : decide ((0 : Int) ≤ (d : Int)) = true := decide_eq_true (by omega)
                      have w3 : IntKind.i64.wrap ((d : Int) - 1) = (d : Int) - 1 := by rw [IntKind.wrap_i64]; omega
                      have w4' : (0 : Int) ≤ (d : Int) := by omega
                      have w5' : (d : Int) < (BL : Int) := by omega
                      obtain ⟨GB, rfl, _, TGB⟩ := row_some RB0.out (by omega)
                      obtain ⟨g, hg⟩ : ∃ g, (Tm.bgs T)[d]? = some g := ⟨(Tm.bgs T)[d]'(by have := HBL.out; omega), List.getElem?_eq_getElem (by have := HBL.out; omega)⟩
                      have cg : (w9).cell? ⟨GB, d, none⟩ = some (.int .i64 (g : Nat)) := by
                        have := RB0.out.cells (g := GB) rfl d (.int .i64 (g : Nat)) (by unfold nVs; rw [List.getElem?_map, hg]; rfl)
                        rwa [add_off, Nat.zero_add] at this
                      have dd : (Tm.bgs T).drop d = g :: (Tm.bgs T).drop (d + 1) := by
                        have hd : d < (Tm.bgs T).length := by have := HBL.out; omega
                        rw [List.drop_eq_getElem_cons hd]
                        congr 1
                        rw [List.getElem?_eq_getElem hd] at hg
                        exact Option.some.inj hg
                      have DD := Lib.hid dd
                      have gb9 : g ≤ 5000000 := by
                        have := HWH.out.fs.inn g (List.mem_of_getElem? hg)
                        rw [HFL.out] at this
                        exact Nat.le_trans (Nat.le_of_lt this) (Nat.le_trans (Nat.mul_le_mul FLB.out HN.out.2) (by omega))
                      clear dd hg hc6
                      by_cases r1 : bn ≤ g
                      · have p1 : decide ((bn : Int) ≤ (g : Int)) = true := decide_eq_true (by omega)
                        have p1n : decide (bn ≤ g) = true := decide_eq_true r1
                        by_cases r2 : g < bn2
                        · have p2 : decide ((g : Int) < (bn2 : Int)) = true := decide_eq_true (by omega)
                          have p2n : decide (g < bn2) = true := decide_eq_true r2
                          obtain ⟨gi, hgi⟩ : ∃ gi, g - bn = gi := ⟨_, rfl⟩
                          have s1 : (g : Int) - (bn : Int) = (gi : Int) := by omega
                          have s2 : IntKind.i64.wrap (gi : Int) = (gi : Int) := by rw [IntKind.wrap_i64]; omega
                          have s3 : IntKind.i64.wrap ((g : Int) - (bn : Int)) = (gi : Int) := by rw [s1, s2]
                          have FE := Lib.hid (show Tm.fAt n b ((Tm.bgs T).drop d) = gi by rw [DD.out, Tm.fAt_yes (by rw [HBN.out]; exact r1) (by rw [HBN2.out]; exact r2), HBN.out]; exact hgi)
                          clear r1 r2 hgi
                          go_wp2_with fail
                          go_roundw
                          case rel => exact ⟨d, by omega, by first | rfl | rw [w3], by rw [FE.out], trivial⟩
                          case measure => first | (simp [intOf]; done) | (simp [intOf]; omega)
                        · have p2 : decide ((g : Int) < (bn2 : Int)) = false := decide_eq_false (by omega)
                          have p2n : decide (g < bn2) = false := decide_eq_false r2
                          have FE := Lib.hid (show Tm.fAt n b ((Tm.bgs T).drop d) = Tm.fAt n b ((Tm.bgs T).drop (d + 1)) by rw [DD.out, Tm.fAt_skip (by rw [HBN.out, HBN2.out]; omega)])
                          clear r1 r2
                          go_wp2_with fail
                          go_roundw
                          case rel => exact ⟨d, by omega, by first | rfl | rw [w3], by rw [FE.out], trivial⟩
                          case measure => first | (simp [intOf]; done) | (simp [intOf]; omega)
                      · have p1 : decide ((bn : Int) ≤ (g : Int)) = false := decide_eq_false (by omega)
                        have p1n : decide (bn ≤ g) = false := decide_eq_false r1
                        have FE := Lib.hid (show Tm.fAt n b ((Tm.bgs T).drop d) = Tm.fAt n b ((Tm.bgs T).drop (d + 1)) by rw [DD.out, Tm.fAt_skip (by rw [HBN.out, HBN2.out]; omega)])
                        clear r1
                        go_wp2_with fail
                        go_roundw
                        case rel => exact ⟨d, by omega, by first | rfl | rw [w3], by rw [FE.out], trivial⟩
                        case measure => first | (simp [intOf]; done) | (simp [intOf]; omega)
                · have v1 : decide ((b : Int) < (FL : Int)) = false := decide_eq_false (by omega)
                  have v1n : decide (b < FL) = false := decide_eq_false g5
                  obtain ⟨RL, hRL⟩ : ∃ RL, ((Tm.real T).map bs).length = RL := ⟨_, rfl⟩
                  have we : W = (Tm.real T).map bs := by rw [HWA.out, ← AR.out]
                  have r1f := L9.out.r1
                  have rgf := RGF.out
                  have wl := WL.out
                  rw [we] at r1f wl
                  rw [hRL] at r1f rgf wl
                  have SS9 := Lib.hid (sameStrings_any ga' wa' RL gc' wc' z4 n1 ((Tm.real T).map bs) hRL (by have := I60.out; omega) w9 rgf r1f)
                  have wr9 : W.length = RL := by rw [we, hRL]
                  rw [hRL, wr9]
                  clear hb g5 hRL we r1f rgf wl wr9
                  go_wp2_with fail
                  (refine SS9.out.mono ?_)
                  rintro e w30 ⟨rfl, h30⟩
                  have L30 := Lib.hid (L9.out.below h30)
                  have WT30 := L30.out.wait GD.out
                  rw [WZ.out] at WT30
                  clear h30
                  go_wp2_with fail
                  (refine WT30.mono ?_)
                  rintro e w31 ⟨rfl, L31⟩
                  have B31 := Lib.hid (B1.out.trans (L31.bl.mono WN1.out))
                  clear L31 WT30
                  go_wp2_with fail
                  go_ret
                  exact ⟨rfl, B31.out⟩

theorem walk (k : Int) (hk : (Lit.int .i64 k).wf = true) (ao : Option Addr) (cap : Nat) (zs : List Int) (l1 : zs.length ≤ cap) (m1 : cap ≤ maxLen) (wf : ∀ x ∈ zs, (Lit.int .i64 x).wf = true) (a2 : Option Addr) (cap2 : Nat) (bs2 : List Bool) (l2 : bs2.length ≤ cap2) (m2 : cap2 ≤ maxLen) (w : World) (R1 : Reads .i64 w ao zs) (R2 : Bls w a2 bs2) : Calls Try.prog 8 #[.int .i64 k, .slice ao zs.length cap, .slice a2 bs2.length cap2] w fun e w' => e = .returned (.bool true) ∧ Below w.heap.size w w' := by
  by_cases hl : 60 < zs.length
  · exact walk_long k hk ao cap zs l1 m1 wf a2 cap2 bs2 l2 m2 w R1 R2 hl
  · exact walk_ok k hk ao cap zs l1 m1 wf a2 cap2 bs2 l2 m2 w R1 R2 (by omega)

set_option maxRecDepth 100000 in
theorem lifted (os : Os) (started : os.Started) (H : Type) (enc : TypeId × Value → H) :
    ReturnsInHanded {} Try.checked os 8 .any (Rows.tmframeWholeSpec.pre6 enc Try.prog Try.f8 Rows.tmframeWholeRow.domain false) (Rows.tmframeWholeSpec.post enc Try.prog Try.f8 false true false false) := by
  refine returnsInHanded_of_change (C := Try.checked) own started (by kernel_rfl) Try.func8
    (ChangeSpec.witness6 (enc := enc) (C := Try.checked) false ⟨#[], #[.int .i64 0, .slice none 0 0, .slice none 0 0], []⟩ 8 (by kernel_rfl) (by kernel_rfl) (by kernel_rfl) (by kernel_rfl)) ?_
  intro W base args ds gs before hval0 hW _ _
  have hval : ∀ (j : Nat) t v, Try.f8.params[j]? = some t → args[j]? = some v → Value.okWide Try.prog W .any base t v := hval0
  have hW' := hW
  obtain ⟨p, q, hA0, hV, rfl, hfz, hnd⟩ := hW
  have hA : DataW.TrodAll enc Try.prog W 0 (fun _ => true) true Try.f8.params.toList args.toList ds p := hA0
  rw [Try.params8] at hA hval
  obtain ⟨v0, vs0, d0, ds0, p0, q0, hargs, rfl, rfl, h0, r0⟩ := trodAll_cons hA
  obtain ⟨v1, vs1, d1, ds1, p1, q1, rfl, rfl, rfl, h1, r1⟩ := trodAll_cons r0
  obtain ⟨v2, vs2, d2, ds2, p2, q2, rfl, rfl, rfl, h2, r2⟩ := trodAll_cons r1
  obtain ⟨rfl, rfl, rfl⟩ := trodAll_nil r2
  obtain rfl : args = #[v0, v1, v2] := by cases args; simp_all
  obtain ⟨rfl, rfl⟩ := trodVars_none hV
  obtain ⟨a0, rfl, rfl, rfl, w0⟩ := open_int Try.underlying3 (hval 0 3 v0 rfl rfl) h0
  obtain ⟨x1, y1, z1, e1⟩ := okWide_slice Try.underlying41 (hval 1 41 v1 rfl rfl)
  obtain ⟨zs1, S1⟩ := slice_arg (k := .i64) Try.underlying41 Try.underlying3 cells_int1 (by rw [e1]; rfl) h1
  clear e1
  obtain ⟨⟨ao1, cap1, rfl, l1, m1, R1⟩, w1, shut1⟩ := S1
  obtain ⟨x2, y2, z2, e2⟩ := okWide_slice Try.underlying60 (hval 2 60 v2 rfl rfl)
  have S2 := bools_arg (by rw [e2]; rfl) h2
  clear e2
  obtain ⟨ao2, zs2, cap2, rfl, l2, m2, R2, shut2⟩ := S2
  clear hA0 hval0
  simp only [List.append_nil] at hW'
  refine (walk a0 w0 ao1 cap1 zs1 l1 m1 w1 ao2 cap2 zs2 l2 m2 W R1 R2).mono fun e W' ⟨he, hg⟩ => ?_
  subst he
  exact ⟨_, rfl, post_of_below (pa := ([] ++ (p1 ++ (p2 ++ [])))) (pv := []) hW' (fun _ _ _ => trodAll_cons_mk (shut_bool Try.underlying4 _) trodAll_mk0) (fun sp hsp => (trodAll_cons_mk (shut_int Try.underlying3 w0) (trodAll_cons_mk (shut1 W' hg sp (fun q hq => hsp q (by simp [hq]))) (trodAll_cons_mk (shut2 W' hg sp (fun q hq => hsp q (by simp [hq]))) trodAll_mk0)))) (fun _ _ => rfl) (by simp)
    hg (ok_one (by kernel_rfl) rfl (okWide_bool_mk Try.underlying4 _))⟩

theorem proved : Rows.TmframeWholeSaid :=
  OpenClaim.holds_of_wide 8 Try.f8 rfl rfl rfl rfl rfl rfl rfl ⟨rfl, rfl, rfl, rfl, rfl⟩ rfl rfl rfl rfl rfl (by kernel_rfl) Try.func8 (by kernel_rfl)
    (of_decide_eq_true (by kernel_rfl)) (by unfold Func.isWrapper; first | (rw [if_pos (by decide +kernel)]; kernel_rfl) | (rw [if_neg (by decide +kernel)]; exact ⟨rfl, rfl⟩))
    (fun os started H enc _ => lifted os started H enc)
#print axioms proved
end tmframeWhole
end Go.Proofs.Ytgcjfiablcjfgaa
